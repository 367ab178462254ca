/-
  Lists of deeds drawn: walked, over what one deed's draw tells.
-/
import Derived.Test.YtnjnffemidaopaaDx
import Derived.Test.YtnjnffemidaopaaL17j
import Derived.Test.YtnjnffemidaopaaRDeed
namespace Go.Proofs.Ytnjnffemidaopaa
open Go.RowKit

def lC (l : List Int) : List Value := l.map (Value.int .i64)
theorem lit_recs {t : TypeId} {w : World} {q n : Nat} {l : List Int} (h : At t w q (lC l).toArray) (hl : l.length = n * 4) : Recs 4 w q n (fun i => l.getD i 0) := by
  refine ⟨h.lt, fun i hi => h.cell i ?_⟩
  have : i < l.length := by omega
  simp [lC, this]
theorem ArK.keptP {K : Nat} {t : TypeId} {w w' : World} {lo hi p : Nat} {v : Value} {n : Nat} {f : Nat → Int} (h : ArK K t w lo hi v n f) (hk : Kept p w w') (hp : p < lo) : ArK K t w' lo hi v n f :=
  h.imp id (fun ⟨g, c, e, h1, h2, h3, h4, l⟩ => ⟨g, c, e, h1, h2, h3, h4, l.kept hk (by omega)⟩)
/-- A list of deeds that is being drawn. -/
structure DG (w1 w : World) (p : Nat) (a : Option Addr) (len cap : Nat) (v : Value) (m : Nat) (f : Nat → Int) : Prop where
  own : ArK 4 29 w w1.heap.size w.heap.size v m f
  nn : v ≠ .slice none 0 0
  cur : Cur w p a len cap
  kp : Kept p w1 w
  pN : p < w1.heap.size
section
variable {w1 w w' : World} {p : Nat} {a : Option Addr} {len cap : Nat} {v v' : Value} {m m' : Nat} {f f' : Nat → Int}
theorem DG.draw (s : DG w1 w p a len cap v m f) (h : Dr w p a len cap w') : DG w1 w' p a len cap v m f :=
  ⟨(s.own.keptP h.1 s.pN).fit, s.nn, h.2, s.kp.trans h.1, s.pN⟩
theorem DG.below (s : DG w1 w p a len cap v m f) (hb : Below w.heap.size w w') : DG w1 w' p a len cap v m f :=
  ⟨(s.own.below hb).fit, s.nn, s.cur.kept hb, s.kp.trans (Kept.of_below hb), s.pN⟩
theorem DG.st (s : DG w1 w p a len cap v m f) : Dr w p a len cap w := Dr.start s.cur
theorem DG.open (s : DG w1 w p a len cap v m f) : ∃ g c, v = .slice (some ⟨g, 0, none⟩) m c := by
  obtain ⟨g, c, e, -⟩ := s.own.nn s.nn
  exact ⟨g, c, e⟩
theorem DG.grow (s : DG w1 w p a len cap v m f) (h1 : ArK 4 29 w' w1.heap.size w'.heap.size v' m' f') (hg : Only v w w') (hv : v' ≠ .slice none 0 0) : DG w1 w' p a len cap v' m' f' := by
  have hge : ∀ j, v.ownBlock = some j → w1.heap.size ≤ j := fun j hj => (s.own.lt hj).1
  have hk : Kept p w1 w' := ⟨hg.os.trans s.kp.os, hg.tape.trans s.kp.tape, hg.output.trans s.kp.output, Nat.le_trans s.kp.size hg.size, fun k hk hp => (hg.block k (Nat.lt_of_lt_of_le hk s.kp.size) (fun e => by have := hge k e; omega)).trans (s.kp.block k hk hp)⟩
  obtain ⟨i, hh, hi, hc, hr⟩ := s.cur
  have hpl : p < w.heap.size := s.cur.lt
  have hc' : w'.heap[p]? = w.heap[p]? := hg.block p hpl (fun e => by have := hge p e; have := s.pN; omega)
  refine ⟨h1, hv, ⟨i, hh, hi, hc'.trans hc, ?_⟩, hk, s.pN⟩
  refine ⟨hr.1, hr.2.imp id ?_⟩
  rintro ⟨b, off, e, hb, hcell⟩
  refine ⟨b, off, e, hb, fun j hj => ?_⟩
  obtain ⟨x, h0, h2, h3⟩ := hcell j hj
  refine ⟨x, h0, h2, ?_⟩
  rw [World.cell?_of_block (w := w) (hg.block b (by omega) (fun e => by have := hge b e; have := s.pN; omega))]
  exact h3
end
/-- What one deed's draw tells. -/
def DeedC : Prop := ∀ (w0 w : World) (p : Nat) (a : Option Addr) (len cap : Nat), Dr w0 p a len cap w → Calls Try.prog 36 #[.pointer (some ⟨p, 0, none⟩)] w fun e w' => ∃ x0 x1 x2 x3 : Int, e = .returned (deedV x0 x1 x2 x3) ∧ Dr w0 p a len cap w'
def DdP (w1 : World) (p : Nat) (a : Option Addr) (len cap k : Nat) (e : Ending) (w' : World) : Prop := ∃ v m f, e = .returned v ∧ m ≤ k ∧ DG w1 w' p a len cap v m f
set_option maxRecDepth 100000 in
set_option maxHeartbeats 6400000 in
theorem drawDeeds_any (hD : DeedC) {w : World} {p : Nat} {a : Option Addr} {len cap : Nat} (hc : Cur w p a len cap) :
    Calls Try.prog 46 #[.pointer (some ⟨p, 0, none⟩)] w (DdP w p a len cap 28) := by
  obtain ⟨V, hV, A0, bb, -⟩ := boxed w 29 #[]
  have R : DG w V p a len cap (.slice (some ⟨w.heap.size, 0, none⟩) 0 0) 0 (fun _ => 0) := ⟨.inr ⟨w.heap.size, 0, rfl, Nat.le_refl _, A0.lt, Nat.le_refl _, Nat.zero_le _, #[], A0, rfl, fun i hi => by omega⟩, (fun h => by cases h), hc.kept bb, Kept.of_below bb, hc.lt⟩
  have hbs : ∀ w, (Instr.buildSlice 40 0 #[]).run Try.prog w = .ok (.slice (some ⟨w.heap.size, 0, none⟩) 0 0) (w.alloc (.cells #[] 29)) := fun _ => by kernel_rfl
  clear hc bb A0
  go_enter Try.func46, Try.ntmps46
  go_wp2_with fail
  refine (once_dr R.st 4 (by omega) (by omega)).mono ?_
  rintro e w2 ⟨b, rfl, hd⟩
  replace R := R.draw hd
  clear hd hV hbs
  cases b
  · have hb3 : ∀ w, (Instr.buildSlice 40 3 #[(0, .agg #[.int .i64 1, .int .i64 1, .int .i64 0, .int .i64 60]), (1, .agg #[.int .i64 2, .int .i64 1, .int .i64 1, .int .i64 7]), (2, .agg #[.int .i64 3, .int .i64 1, .int .i64 0, .int .i64 0])]).run Try.prog w = .ok (.slice (some ⟨w.heap.size, 0, none⟩) 3 3) (w.alloc (.cells #[.int .i64 1, .int .i64 1, .int .i64 0, .int .i64 60, .int .i64 2, .int .i64 1, .int .i64 1, .int .i64 7, .int .i64 3, .int .i64 1, .int .i64 0, .int .i64 0] 29)) := fun _ => by kernel_rfl
    obtain ⟨V9, hV9, A9, b9, -⟩ := boxed w2 29 #[.int .i64 1, .int .i64 1, .int .i64 0, .int .i64 60, .int .i64 2, .int .i64 1, .int .i64 1, .int .i64 7, .int .i64 3, .int .i64 1, .int .i64 0, .int .i64 0]
    have R9 := R.below b9
    obtain ⟨gx, hgx⟩ : ∃ q, w2.heap.size = q := ⟨_, rfl⟩
    rw [hgx] at A9
    go_wp2_with (at_builtin; refine Hid.out (?_ : Hid _))
    clear hb3 hV9 hgx b9 R
    refine (?_ : wpList _ _ _ _ _ _)
    refine wpListK_append Try.underlying40 infoDeed rfl (by omega) (by omega) V9 rfl _ _ rfl rfl R9.own rfl (.inr ⟨gx, rfl, lit_recs (l := [1, 1, 0, 60, 2, 1, 1, 7, 3, 1, 0, 0]) A9 rfl⟩) (fun h => by cases h) (by omega) R9.kp.size ?_
    intro v' u3 C' ho hN
    replace R9 := R9.grow C' ho (hN R9.nn)
    clear C' ho hN A9
    rename DG _ _ _ _ _ _ _ _ _ => R
    go_wp2_with fail
    refine (below_dr R.st 26 (by omega) (by omega)).mono ?_
    rintro e w4 ⟨nn, rfl, n0, n1, hd⟩
    replace R := R.draw hd
    clear hd
    go_wp2
    go_loopw [3, 4] (fun s t wr => ∃ (m : Nat) (k : Int) (f : Nat → Int), 0 ≤ k ∧ k ≤ 25 ∧ (m : Int) + k ≤ 28 ∧ t = .int .i64 k ∧ DG w wr p a len cap s m f) (fun _ t _ => (intOf t).toNat)
    case atStart => exact ⟨_, nn, _, by omega, by omega, by omega, rfl, R⟩
    case round =>
      clear R
      obtain ⟨m, k, f, hk0, hk9, hmk, rfl, R⟩ := hrel
      obtain ⟨g7, c7, rfl⟩ := R.open
      by_cases hkp : 0 < k
      · have hkp2 := hkp
        go_wp2_with fail
        refine (hD _ _ _ _ _ _ R.st).mono ?_
        rintro e w5 ⟨x0, x1, x2, x3, rfl, hd⟩
        replace R := R.draw hd
        clear hd
        obtain ⟨V9, hV9, A9, b9, -⟩ := boxed w5 29 #[.int .i64 x0, .int .i64 x1, .int .i64 x2, .int .i64 x3]
        have R9 := R.below b9
        obtain ⟨gx, hgx⟩ : ∃ q, w5.heap.size = q := ⟨_, rfl⟩
        rw [hgx] at A9
        have hb2 : ∀ w, (Instr.buildSlice 40 1 #[(0, .agg #[.int .i64 x0, .int .i64 x1, .int .i64 x2, .int .i64 x3])]).run Try.prog w = .ok (.slice (some ⟨w.heap.size, 0, none⟩) 1 1) (w.alloc (.cells #[.int .i64 x0, .int .i64 x1, .int .i64 x2, .int .i64 x3] 29)) := fun _ => by kernel_rfl
        go_wp2_with (at_builtin; refine Hid.out (?_ : Hid _))
        clear hb2 hV9 hgx b9 R
        refine (?_ : wpList _ _ _ _ _ _)
        refine wpListK_append Try.underlying40 infoDeed rfl (by omega) (by omega) V9 rfl _ _ rfl rfl R9.own rfl (.inr ⟨gx, rfl, lit_recs (l := [x0, x1, x2, x3]) A9 rfl⟩) (fun h => by cases h) (by omega) R9.kp.size ?_
        intro v' u3 C' ho hN
        have R3 := R9.grow C' ho (hN R9.nn)
        clear C' ho hN A9 R9
        go_wp2
        exact ⟨⟨m + 1, k - 1, _, by omega, by omega, by omega, rfl, R3⟩, by simp [intOf]; omega⟩
      · go_wp2
        exact bodyPost_ret (v := .slice (some ⟨g7, 0, none⟩) m c7) (by simp [results, Try.results46, go_sem]) rfl ⟨_, _, _, rfl, by omega, R⟩
  · skip
    go_wp2_with fail
    refine (below_dr R.st 26 (by omega) (by omega)).mono ?_
    rintro e w4 ⟨nn, rfl, n0, n1, hd⟩
    replace R := R.draw hd
    clear hd
    go_wp2
    go_loopw [3, 4] (fun s t wr => ∃ (m : Nat) (k : Int) (f : Nat → Int), 0 ≤ k ∧ k ≤ 25 ∧ (m : Int) + k ≤ 28 ∧ t = .int .i64 k ∧ DG w wr p a len cap s m f) (fun _ t _ => (intOf t).toNat)
    case atStart => exact ⟨_, nn, _, by omega, by omega, by omega, rfl, R⟩
    case round =>
      clear R
      obtain ⟨m, k, f, hk0, hk9, hmk, rfl, R⟩ := hrel
      obtain ⟨g7, c7, rfl⟩ := R.open
      by_cases hkp : 0 < k
      · have hkp2 := hkp
        go_wp2_with fail
        refine (hD _ _ _ _ _ _ R.st).mono ?_
        rintro e w5 ⟨x0, x1, x2, x3, rfl, hd⟩
        replace R := R.draw hd
        clear hd
        obtain ⟨V9, hV9, A9, b9, -⟩ := boxed w5 29 #[.int .i64 x0, .int .i64 x1, .int .i64 x2, .int .i64 x3]
        have R9 := R.below b9
        obtain ⟨gx, hgx⟩ : ∃ q, w5.heap.size = q := ⟨_, rfl⟩
        rw [hgx] at A9
        have hb2 : ∀ w, (Instr.buildSlice 40 1 #[(0, .agg #[.int .i64 x0, .int .i64 x1, .int .i64 x2, .int .i64 x3])]).run Try.prog w = .ok (.slice (some ⟨w.heap.size, 0, none⟩) 1 1) (w.alloc (.cells #[.int .i64 x0, .int .i64 x1, .int .i64 x2, .int .i64 x3] 29)) := fun _ => by kernel_rfl
        go_wp2_with (at_builtin; refine Hid.out (?_ : Hid _))
        clear hb2 hV9 hgx b9 R
        refine (?_ : wpList _ _ _ _ _ _)
        refine wpListK_append Try.underlying40 infoDeed rfl (by omega) (by omega) V9 rfl _ _ rfl rfl R9.own rfl (.inr ⟨gx, rfl, lit_recs (l := [x0, x1, x2, x3]) A9 rfl⟩) (fun h => by cases h) (by omega) R9.kp.size ?_
        intro v' u3 C' ho hN
        have R3 := R9.grow C' ho (hN R9.nn)
        clear C' ho hN A9 R9
        go_wp2
        exact ⟨⟨m + 1, k - 1, _, by omega, by omega, by omega, rfl, R3⟩, by simp [intOf]; omega⟩
      · go_wp2
        exact bodyPost_ret (v := .slice (some ⟨g7, 0, none⟩) m c7) (by simp [results, Try.results46, go_sem]) rfl ⟨_, _, _, rfl, by omega, R⟩
end Go.Proofs.Ytnjnffemidaopaa
