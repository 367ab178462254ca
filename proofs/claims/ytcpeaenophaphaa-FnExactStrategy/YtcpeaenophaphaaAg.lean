/-
  Strategies by the specification: l13All, l13Stand, StrategyOk, walked.
-/
import Derived.Test.YtcpeaenophaphaaAf
import Derived.Test.YtcpeaenophaphaaLa
namespace Go.Proofs.Ytcpeaenophaphaa
open Go.RowKit

def lCells (l : List Int) : List Value := l.map (Value.int .i64)
theorem lCells_one (l : List Int) : ∀ u ∈ lCells l, u.oneCell' = true := by
  intro u hu
  obtain ⟨x, -, rfl⟩ := List.mem_map.1 hu
  rfl
/-- A list gathered by append: m elements of e numbers each. -/
structure Gat (w0 w : World) (B : Nat) (t : TypeId) (e : Nat) (v : Value) (m : Nat) (l : List Int) : Prop where
  own : w.ownsRow B t e v m (lCells l)
  nn : v ≠ .slice none 0 0
  b : Below w0.heap.size w0 w
  o2 : w0.heap.size ≤ B
  o3 : B ≤ w.heap.size
theorem Gat.below {w0 w w' : World} {B : Nat} {t : TypeId} {e : Nat} {v : Value} {m : Nat} {l : List Int} (s : Gat w0 w B t e v m l) (hb : Below w.heap.size w w') : Gat w0 w' B t e v m l :=
  ⟨own_below s.own hb, s.nn, s.b.trans (hb.mono s.b.size), s.o2, Nat.le_trans s.o3 hb.size⟩
theorem Gat.grow {w0 w w' : World} {B : Nat} {t : TypeId} {e : Nat} {v v' : Value} {m m' : Nat} {l l' : List Int} (s : Gat w0 w B t e v m l) (h1 : w'.ownsRow B t e v' m' (lCells l ++ lCells l')) (hg : w.grownBy w' v.ownBlock) (hv : v' ≠ .slice none 0 0) : Gat w0 w' B t e v' m' (l ++ l') := by
  have Bg : Below B w w' := Below.grown (Below.refl _ _) hg s.o3 (fun x hx => ownBlock_ge s.own hx)
  exact ⟨by rw [lCells, List.map_append]; exact h1, hv, s.b.trans (Bg.mono s.o2), s.o2, Nat.le_trans s.o3 hg.size⟩
theorem Gat.keep {w0 w w' : World} {B : Nat} {t s : TypeId} {e q : Nat} {v : Value} {m : Nat} {l : List Int} {vs : Array Value} (h : Gat w0 w B t e v m l) (hg : w.grownBy w' v.ownBlock) (ha : At s w q vs) (hq : q < B) : At s w' q vs :=
  (hg.block q ha.lt (fun e => by have := ownBlock_ge h.own e.symm; omega)).trans ha
theorem Gat.start {w0 W : World} {t : TypeId} {e : Nat} (h : At t W w0.heap.size #[]) (hb : Below w0.heap.size w0 W) : Gat w0 W w0.heap.size t e (.slice (some ⟨w0.heap.size, 0, none⟩) 0 0) 0 [] :=
  ⟨⟨by simp [lCells], .inr ⟨w0.heap.size, 0, #[], rfl, Nat.le_refl _, h, Nat.le_refl _, Nat.zero_le _, by simp, by simp [lCells]⟩⟩, ne_nil _ _ _, hb, Nat.le_refl _, hb.size⟩
/-- A gathered list, read. -/
theorem Gat.open {w0 w : World} {B : Nat} {t : TypeId} {e : Nat} {v : Value} {m : Nat} {l : List Int} (s : Gat w0 w B t e v m l) : ∃ g c, v = .slice (some ⟨g, 0, none⟩) m c ∧ B ≤ g ∧ m ≤ c ∧ g < w.heap.size ∧ ∀ i, i < l.length → w.cell? ⟨g, i, none⟩ = some (.int .i64 (l.getD i 0)) := by
  rcases s.own.2 with ⟨e, _⟩ | ⟨g, c, cur, e, hb, hh, hc1, hc2, hsz, ht⟩
  · exact absurd e s.nn
  · refine ⟨g, c, e, hb, hc1, (Array.getElem?_eq_some_iff.1 hh).1, fun i hi => ?_⟩
    have hl := s.own.1
    simp only [lCells, List.length_map] at hl
    have a1 : (lCells l)[i]? = some (.int .i64 (l.getD i 0)) := by simp [lCells, hi]
    rw [← ht] at a1
    rw [List.getElem?_take_of_lt (by omega)] at a1
    simpa [World.cell?, hh] using a1
theorem Gat.len {w0 w : World} {B : Nat} {t : TypeId} {e : Nat} {v : Value} {m : Nat} {l : List Int} (s : Gat w0 w B t e v m l) : l.length = m * e := by
  have hl := s.own.1
  simpa [lCells] using hl
theorem news1 {w : World} {t : TypeId} {g : Nat} {x : Int} (h : At t w g #[.int .i64 x]) : ∀ j u, (lCells [x])[j]? = some u → w.cell? ((⟨g, 0, none⟩ : Addr).add j) = some u := by
  intro j u hu
  rcases j with _ | j
  · simp [lCells] at hu; subst hu; exact h.cell 0 rfl
  · simp [lCells] at hu
/-- A gathered list of numbers, read. -/
theorem Gat.src {w0 w : World} {B : Nat} {t : TypeId} {v : Value} {m : Nat} {l : List Int} (s : Gat w0 w B t 1 v m l) : ∃ g c, v = .slice (some ⟨g, 0, none⟩) m c ∧ B ≤ g ∧ m ≤ c ∧ Src w (some ⟨g, 0, none⟩) m (fun i => l.getD i 0) := by
  obtain ⟨g, c, e, h1, h2, h3, h4⟩ := s.open
  have hl := s.len
  refine ⟨g, c, e, h1, h2, .inr ⟨g, 0, rfl, h3, fun i hi => ?_⟩⟩
  rw [Nat.zero_add]
  exact h4 i (by omega)
/-- The numbers from 0 on, N of them. -/
def upL (N : Nat) : List Int := (List.range N).map fun (i : Nat) => (i : Int)
theorem upL_len (N : Nat) : (upL N).length = N := by simp [upL]
theorem upL_succ (N : Nat) : upL (N + 1) = upL N ++ [(N : Int)] := by simp [upL, List.range_succ]
theorem upL_at {N i : Nat} (h : i < N) : (upL N).getD i 0 = (i : Int) := by simp [upL, h]
set_option maxRecDepth 100000 in
theorem specAll_any {w : World} (p : Option Addr) (N cap : Nat) (hN : N ≤ 1048576) :
    Calls Try.prog 34 #[.slice p N cap] w fun e w' => ∃ v, e = .returned v ∧ Gat w w' w.heap.size 2 1 v N (upL N) := by
  obtain ⟨i0, hi0, hz0, hz1, hz2⟩ := info_parts infoI
  obtain ⟨V, hV, A0, B, -⟩ := boxed w 2 #[]
  have R : Gat w V w.heap.size 2 1 (.slice (some ⟨w.heap.size, 0, none⟩) 0 0) 0 [] := Gat.start A0 B
  have hbs : ∀ w, (Instr.buildSlice 25 0 #[]).run Try.prog w = .ok (.slice (some ⟨w.heap.size, 0, none⟩) 0 0) (w.alloc (.cells #[] 2)) := fun _ => by kernel_rfl
  have hN' : (N : Int) ≤ 1048576 := by omega
  go_enter Try.func34, Try.ntmps34
  go_wp2
  clear hV A0 B
  go_loopw [3, 4] (fun s t wr => ∃ (k : Nat) (l : List Int), k ≤ N ∧ upL k = l ∧ t = .int .i64 (k : Int) ∧ Gat w wr w.heap.size 2 1 s k l) (fun _ t _ => N - (intOf t).toNat)
  case atStart => exact ⟨0, [], Nat.zero_le _, rfl, rfl, R⟩
  case round =>
    clear R
    obtain ⟨k, l, hk', hl, rfl, R⟩ := hrel
    by_cases hk : k < N
    · have hklt : (k : Int) < (N : Int) := by omega
      obtain ⟨V9, hV9, A9, b10, -⟩ := boxed wr 2 #[.int .i64 (k : Int)]
      have R9 := R.below b10
      obtain ⟨g9, hg9⟩ : ∃ g, wr.heap.size = g := ⟨_, rfl⟩
      rw [hg9] at A9
      have hb2 : ∀ w, (Instr.buildSlice 25 1 #[(0, .int .i64 (k : Int))]).run Try.prog w = .ok (.slice (some ⟨w.heap.size, 0, none⟩) 1 1) (w.alloc (.cells #[.int .i64 (k : Int)] 2)) := fun _ => by kernel_rfl
      have H := upL_succ k
      rw [hl] at H
      clear b10 hl
      go_wp2_with (at_builtin; refine wpList_append_own _ rfl _ _ _ rfl w.heap.size 2 i0 _ 1 8 Try.underlying25 hi0 hz0 hz1 hz2 rfl (by omega) u3 k (lCells l) rfl R9.own ⟨g9, 0, none⟩ 1 1 (lCells [(k : Int)]) rfl rfl (news1 A9) (lCells_one _) (by unfold maxLen; omega) (by omega) R9.o3 ?_; intro v2 w3 hown2 hgrow2 hne2)
      have R2 := R9.grow hown2 hgrow2 (fun h => R9.nn (hne2.1 h).1)
      exact ⟨⟨k + 1, _, by omega, H, by go_num, R2⟩, by simp [intOf]; omega⟩
    · have hklt : ¬ (k : Int) < (N : Int) := by omega
      obtain rfl : k = N := by omega
      go_wp2
      refine bodyPost_ret (v := u3) (by simp [results, Try.results34, go_sem]) rfl ⟨_, rfl, ?_⟩
      exact R
noncomputable def pd (P : Prop) : Bool := @decide P (Classical.propDecidable _)
theorem pd_yes {P : Prop} (h : P) : pd P = true := by simp [pd, h]
theorem pd_no {P : Prop} (h : ¬ P) : pd P = false := by simp [pd, h]
theorem pd_congr {P Q : Prop} (h : P ↔ Q) : pd P = pd Q := by rw [propext h]
/-- Sixty-four marks: those of P are true. -/
def Bls (w : World) (g : Nat) (P : Nat → Prop) : Prop := ∃ cur : Array Value, At 4 w g cur ∧ cur.size = 64 ∧ ∀ r, r < 64 → cur[r]? = some (.bool (pd (P r)))
theorem Bls.below {w w' : World} {g : Nat} {P : Nat → Prop} (h : Bls w g P) (hb : Below w.heap.size w w') : Bls w' g P := by
  obtain ⟨cur, h1, h2⟩ := h
  exact ⟨cur, h1.below hb, h2⟩
theorem Bls.open {w : World} {g : Nat} {P : Nat → Prop} (h : Bls w g P) {r : Nat} (hr : r < 64) : w.cell? ⟨g, r, none⟩ = some (.bool (pd (P r))) ∧ w.frozen? ⟨g, r, none⟩ = false := by
  obtain ⟨cur, h1, h2, h3⟩ := h
  exact ⟨h1.cell r (h3 r hr), h1.frozen r⟩
theorem Bls.set {w : World} {g : Nat} {P : Nat → Prop} (h : Bls w g P) {x : Nat} (hx : x < 64) : Bls (w.setCell ⟨g, x, none⟩ (.bool true)) g (fun r => P r ∨ r = x) := by
  obtain ⟨cur, h1, h2, h3⟩ := h
  refine ⟨_, h1.set x _, by simpa using h2, fun i hi => ?_⟩
  by_cases e : i = x
  · subst e
    rw [Array.getElem?_setIfInBounds, if_pos rfl, if_pos (by omega), pd_yes (.inr rfl)]
  · rw [Array.getElem?_setIfInBounds, if_neg (by omega), h3 i hi, pd_congr ⟨Or.inl, fun h => h.resolve_right e⟩]
theorem Bls.congr {w : World} {g : Nat} {P Q : Nat → Prop} (h : Bls w g P) (e : ∀ r, r < 64 → (P r ↔ Q r)) : Bls w g Q := by
  obtain ⟨cur, h1, h2, h3⟩ := h
  refine ⟨cur, h1, h2, fun r hr => ?_⟩
  rw [h3 r hr, pd_congr (e r hr)]
theorem infoB : (Try.prog.info? 4).map (fun i => (i.zero, i.size, i.bytes)) = some (some (.bool false), 1, 1) := by kernel_rfl
theorem make_bools : ∃ C : Array Value, (C.size = 64 ∧ ∀ i, i < 64 → C[i]? = some (.bool false)) ∧ ∀ w, (Instr.makeSlice 43 (.int .i64 64) (.int .i64 64)).run Try.prog w = .ok (.slice (some ⟨w.heap.size, 0, none⟩) 64 64) (w.alloc (.cells C 4)) := by
  obtain ⟨i0, hi0, hz0, hz1, hz2⟩ := info_parts infoB
  refine ⟨madeCells (Value.bool false).cells 64, ⟨by simp [madeCells], fun i hi => by simp [madeCells, hi, Value.cells, Nat.mod_one]⟩, fun w => ?_⟩
  have := run_make (P := Try.prog) w 43 4 i0 _ Try.underlying43 hi0 hz0 .i64 .i64 64 64 (by omega) (by omega) (by rw [hz2]; omega) (by omega)
  rw [this, hz1]
  simp
/-- The reflections of the exposures that the first k of l number. -/
def Sd (n : Nat → Nat) (f : Nat → Nat → Int) (l : Nat → Int) (k r : Nat) : Prop := ∃ j, j < k ∧ Hs f (l j).toNat (n (l j).toNat) r
set_option maxHeartbeats 4000000 in
theorem specStand_any {w : World} {b N cap M cap2 : Nat} {a : Nat → Option Addr} {c : Nat → Nat} {n : Nat → Nat} {f : Nat → Nat → Int} {p : Option Addr} {l : Nat → Int} (hS : Lli w b 0 N a c n f) (hx : ExOk N n f) (hn : ∀ i, i < N → n i ≤ 1048576) (hl : Src w p M l) (hM : M ≤ 1048576) (hr : ∀ j, j < M → 0 ≤ l j ∧ l j < N) :
    Calls Try.prog 33 #[.slice (some ⟨b, 0, none⟩) N cap, .slice p M cap2] w fun e w' => ∃ g, e = .returned (.slice (some ⟨g, 0, none⟩) 64 64) ∧ Bls w' g (Sd n f l M) ∧ Below w.heap.size w w' := by
  obtain ⟨C, ⟨hC, hC0⟩, hmk⟩ := make_bools
  obtain ⟨W1, hW1, a1, B1, -⟩ := boxed w 4 C
  have L1 : Bls W1 w.heap.size (Sd n f l 0) := ⟨C, a1, hC, fun r hr => (hC0 r hr).trans (by rw [pd_no]; rintro ⟨j, hj, -⟩; omega)⟩
  go_enter Try.func33, Try.ntmps33
  go_wp2
  clear hmk hW1 a1 hC hC0
  go_loopw [6] (fun s wr => ∃ k : Nat, k ≤ M ∧ s = .int .i64 k ∧ Bls wr w.heap.size (Sd n f l k) ∧ Below w.heap.size w wr) (fun s _ => M - (intOf s).toNat)
  case atStart => exact ⟨0, Nat.zero_le _, rfl, L1, B1⟩
  case round =>
    clear L1 B1
    obtain ⟨k, hk, rfl, hU, bW⟩ := hrel
    by_cases hlt : k < M
    · have hlt' : (k : Int) < (M : Int) := by omega
      rcases hl.below bW with h0 | ⟨sb, so, rfl, hb, hc⟩
      · omega
      have c0 := hc k hlt
      obtain ⟨x, hx'⟩ : ∃ x : Nat, l k = (x : Int) := ⟨(l k).toNat, by have := (hr k hlt).1; omega⟩
      have hxN : x < N := by have := (hr k hlt).2; omega
      rw [hx'] at c0
      have hx1 : (0 : Int) ≤ (x : Int) ∧ (x : Int) < (N : Int) := by omega
      have c2 := (hS.below bW).open hxN
      have hsk := hS.src x hxN
      have hnk := hn x hxN
      obtain ⟨A, hA⟩ : ∃ A, a x = A := ⟨_, rfl⟩
      rw [hA] at c2 hsk
      have HU : Hid (Bls wr w.heap.size (Sd n f l k)) := hU
      clear hU
      go_wp2
      clear c0 c2 hA
      have hrx := hx.2 x hxN
      go_loopw [8] (fun s wr => ∃ j : Nat, j ≤ n x ∧ s = .int .i64 j ∧ Bls wr w.heap.size (fun r => Sd n f l k r ∨ Hs f x j r) ∧ Below w.heap.size w wr) (fun s _ => n x - (intOf s).toNat)
      case atStart => exact ⟨0, Nat.zero_le _, rfl, HU.out.congr fun r _ => by simp [Hs], bW⟩
      case round =>
        clear HU bW
        obtain ⟨j, hj, rfl, hU, bW⟩ := hrel
        by_cases hjn : j < n x
        · have hjn' : (j : Int) < (n x : Int) := by omega
          rcases hsk.below bW with h0 | ⟨sb', so', rfl, hb', hc'⟩
          · omega
          have c0 := hc' j hjn
          obtain ⟨y, hy⟩ : ∃ y : Nat, f x j = (y : Int) := ⟨(f x j).toNat, by have := (hrx.1 j hjn).1; omega⟩
          have hy64 : y < 64 := by have := (hrx.1 j hjn).2; omega
          rw [hy] at c0
          have hy1 : (0 : Int) ≤ (y : Int) ∧ (y : Int) < 64 := by omega
          obtain ⟨z0, y0⟩ := hU.open hy64
          have HU : Hid (Bls wr w.heap.size (fun r => Sd n f l k r ∨ Hs f x j r)) := hU
          clear hU
          go_wp2
          refine ⟨⟨j + 1, by omega, by go_num, (HU.out.set hy64).congr fun r _ => ?_, bW.setCell (Nat.le_refl _) _⟩, by simp [intOf]; omega⟩
          constructor
          · rintro ((h | ⟨t, h1, h2⟩) | rfl)
            · exact .inl h
            · exact .inr ⟨t, by omega, h2⟩
            · exact .inr ⟨j, by omega, hy⟩
          · rintro (h | ⟨t, h1, h2⟩)
            · exact .inl (.inl h)
            · by_cases e : t = j
              · subst e; right; omega
              · exact .inl (.inr ⟨t, by omega, h2⟩)
        · have hjn' : ¬ (j : Int) < (n x : Int) := by omega
          obtain rfl : j = n x := by omega
          have HU : Hid (Bls wr w.heap.size (fun r => Sd n f l k r ∨ Hs f x (n x) r)) := hU
          clear hU
          go_wp2
          refine ⟨⟨k + 1, by omega, by go_num, HU.out.congr fun r _ => ?_, bW⟩, by simp [intOf]; omega⟩
          have e0 : (l k).toNat = x := by omega
          constructor
          · rintro (⟨t, h1, h2⟩ | h)
            · exact ⟨t, by omega, h2⟩
            · exact ⟨k, by omega, by rw [e0]; exact h⟩
          · rintro ⟨t, h1, h2⟩
            by_cases e : t = k
            · subst e; rw [e0] at h2; exact .inr h2
            · exact .inl ⟨t, by omega, h2⟩
    · have hlt' : ¬ (k : Int) < (M : Int) := by omega
      obtain rfl : k = M := by omega
      go_wp2
      go_ret
      exact ⟨_, rfl, hU, bW⟩
set_option maxHeartbeats 4000000 in
theorem specStrategyOk_any {w : World} {b N cap M cap2 : Nat} {a : Nat → Option Addr} {c : Nat → Nat} {n : Nat → Nat} {f : Nat → Nat → Int} {p : Option Addr} {l : Nat → Int} (hS : Lli w b 0 N a c n f) (hN : N ≤ 1048576) (hn : ∀ i, i < N → n i ≤ 1048576) (hl : Src w p M l) (hM : M ≤ 1048576) :
    Calls Try.prog 10 #[.slice (some ⟨b, 0, none⟩) N cap, .slice p M cap2] w fun e w' => e = .returned (.bool (stB N n f M l)) ∧ Below w.heap.size w w' := by
  obtain ⟨D, hD⟩ : ∃ D, stB N n f M l = D := ⟨_, rfl⟩
  rw [hD]
  have H0 : ¬ StOk N n f M l → D = false := fun h => hD ▸ stB_no h
  have H1 : StOk N n f M l → D = true := fun h => hD ▸ stB_yes h
  clear hD
  go_enter Try.func10, Try.ntmps10
  go_wp2_with fail
  refine (specExposures_any hS hN hn).mono ?_
  rintro e w1 ⟨rfl, bW⟩
  by_cases hx : ExOk N n f
  case neg =>
    rw [exB_no hx]
    obtain rfl : D = false := H0 fun h => hx h.1
    clear H0 H1
    go_wp2
    go_ret
    exact ⟨rfl, bW⟩
  rw [exB_yes hx]
  go_wp2_with fail
  refine (specRises_any (hl.below bW) hM N (by omega)).mono ?_
  rintro e w2 ⟨rfl, bb⟩
  replace bW := bW.trans (bb.mono bW.size)
  clear bb
  by_cases hr : Ris M l N
  case neg =>
    rw [risB_no hr]
    obtain rfl : D = false := H0 fun h => hr h.2.1
    clear H0 H1
    go_wp2
    go_ret
    exact ⟨rfl, bW⟩
  rw [risB_yes hr]
  go_wp2_with fail
  refine (specAll_any (some ⟨b, 0, none⟩) N cap hN).mono ?_
  rintro e w3 ⟨v, rfl, G⟩
  have bb := G.b
  obtain ⟨g1, c1, rfl, -, -, hu⟩ := G.src
  replace bW := bW.trans (bb.mono bW.size)
  clear bb G
  go_wp2_with fail
  refine (specStand_any (hS.below bW) hx hn hu hN (fun j hj => by rw [upL_at hj]; omega)).mono ?_
  rintro e w4 ⟨g2, rfl, h2, bb⟩
  replace bW := bW.trans (bb.mono bW.size)
  clear bb hu
  replace h2 : Bls w4 g2 (fun r => ∃ i, i < N ∧ Hs f i (n i) r) := h2.congr fun r _ => by
    constructor
    · rintro ⟨j, hj, h⟩
      simp only [upL_at hj, Int.toNat_natCast] at h
      exact ⟨j, hj, h⟩
    · rintro ⟨j, hj, h⟩
      refine ⟨j, hj, ?_⟩
      simp only [upL_at hj, Int.toNat_natCast]
      exact h
  go_wp2_with fail
  refine (specStand_any (hS.below bW) hx hn (hl.below bW) hM hr.1).mono ?_
  rintro e w5 ⟨g3, rfl, h3, bb⟩
  replace bW := bW.trans (bb.mono bW.size)
  replace h2 := h2.below bb
  clear bb
  replace H0 : ∀ r, r < 64 → (∃ i, i < N ∧ Hs f i (n i) r) → ¬ Sd n f l M r → D = false := fun r h1 h2 h3 => H0 fun h => h3 ((h.2.2 r h1).2 h2)
  replace H1 : (∀ r, r < 64 → (∃ i, i < N ∧ Hs f i (n i) r) → Sd n f l M r) → D = true := fun h => H1 ⟨hx, hr, fun r h1 => ⟨fun ⟨j, h2, h3⟩ => ⟨(l j).toNat, by have := hr.1 j h2; omega, h3⟩, h r h1⟩⟩
  go_wp2
  go_loopw [7] (fun s wr => ∃ k : Nat, k ≤ 64 ∧ s = .int .i64 k ∧ (∀ r, r < k → (∃ i, i < N ∧ Hs f i (n i) r) → Sd n f l M r) ∧ Below w5.heap.size w5 wr) (fun s _ => 64 - (intOf s).toNat)
  case atStart => exact ⟨0, Nat.zero_le _, rfl, fun r hr => absurd hr (Nat.not_lt_zero _), Below.refl _ _⟩
  case round =>
    obtain ⟨k, hk, rfl, hA, bb⟩ := hrel
    by_cases hlt : k < 64
    · have hlt' : (k : Int) < 64 := by omega
      obtain ⟨z0, -⟩ := (h2.below bb).open hlt
      obtain ⟨z1, -⟩ := (h3.below bb).open hlt
      by_cases p1 : ∃ i, i < N ∧ Hs f i (n i) k
      · rw [pd_yes p1] at z0
        by_cases p2 : Sd n f l M k
        · rw [pd_yes p2] at z1
          have hA' : ∀ r, r < k + 1 → (∃ i, i < N ∧ Hs f i (n i) r) → Sd n f l M r := fun r hr h => by
            by_cases e : r = k
            · subst e; exact p2
            · exact hA r (by omega) h
          clear H0 H1 hA h2 h3
          go_wp2
          exact ⟨⟨k + 1, by omega, by go_num, hA', bb⟩, by simp [intOf]; omega⟩
        · rw [pd_no p2] at z1
          obtain rfl : D = false := H0 k hlt p1 p2
          clear H0 H1 hA h2 h3
          go_wp2
          go_ret
          exact ⟨rfl, bW.trans (bb.mono bW.size)⟩
      · rw [pd_no p1] at z0
        have hA' : ∀ r, r < k + 1 → (∃ i, i < N ∧ Hs f i (n i) r) → Sd n f l M r := fun r hr h => by
          by_cases e : r = k
          · subst e; exact absurd h p1
          · exact hA r (by omega) h
        clear H0 H1 hA h2 h3 z1
        go_wp2
        exact ⟨⟨k + 1, by omega, by go_num, hA', bb⟩, by simp [intOf]; omega⟩
    · have hlt' : ¬ (k : Int) < 64 := by omega
      obtain rfl : k = 64 := by omega
      obtain rfl : D = true := H1 hA
      clear H0 H1 hA h2 h3
      go_wp2
      go_ret
      exact ⟨rfl, bW.trans (bb.mono bW.size)⟩
end Go.Proofs.Ytcpeaenophaphaa
