/-
  A lab drawn: walked, over what one deed's draw tells.
-/
import Derived.Test.YtnjnffemidaopaaL17x
import Derived.Test.YtnjnffemidaopaaL17zd
import Derived.Test.YtnjnffemidaopaaL17zf
namespace Go.Proofs.Ytnjnffemidaopaa
open Go.RowKit

/-- A lab that is being drawn, in its box. -/
structure DB (w1 w : World) (p : Nat) (a : Option Addr) (len cap : Nat) (q : Nat) (vS vJ : Value) (n : Nat) (f : Nat → Int) (m : Nat) (g : Nat → Int) (T : Int) : Prop where
  lk : Lk w1.heap.size q w vS vJ n f m g T
  cur : Cur w p a len cap
  kp : Kept p w1 w
  pN : p < w1.heap.size
section
variable {w1 w w' : World} {p : Nat} {a : Option Addr} {len cap : Nat} {q : Nat} {vS vJ : Value} {n m n' m' : Nat} {f g f' g' : Nat → Int} {T T' : Int}
theorem Cur.belowN {N : Nat} (h : Cur w p a len cap) (hb : Below N w w') (hp : p < N) : Cur w' p a len cap := by
  obtain ⟨i, hh, hi, hc, hr⟩ := h
  refine ⟨i, hh, hi, (hb.block p hp).trans hc, hr.1, hr.2.imp id ?_⟩
  rintro ⟨b, off, e, hb2, hcell⟩
  refine ⟨b, off, e, hb2, fun j hj => ?_⟩
  obtain ⟨x, h0, h2, h3⟩ := hcell j hj
  refine ⟨x, h0, h2, ?_⟩
  rw [World.cell?_of_block (w := w) (hb.block b (by omega))]
  exact h3
theorem Kept.belowN {N : Nat} {w0 : World} (h : Kept p w0 w) (hb : Below N w w') (hN : w0.heap.size ≤ N) : Kept p w0 w' :=
  ⟨hb.os.trans h.os, hb.tape.trans h.tape, hb.output.trans h.output, Nat.le_trans h.size hb.size, fun k hk hp => (hb.block k (by omega)).trans (h.block k hk hp)⟩
theorem Lk.keptP {B : Nat} (h : Lk B q w vS vJ n f m g T) (hk : Kept p w w') (hp : p < B) : Lk B q w' vS vJ n f m g T :=
  ⟨(hk.block q h.bx.lt (by have := h.hq; omega)).trans h.bx, (h.S.keptP hk hp).fit, (h.J.keptP hk hp).fit, h.hq⟩
theorem DB.draw (s : DB w1 w p a len cap q vS vJ n f m g T) (h : Dr w p a len cap w') : DB w1 w' p a len cap q vS vJ n f m g T :=
  ⟨s.lk.keptP h.1 s.pN, h.2, s.kp.trans h.1, s.pN⟩
theorem DB.below (s : DB w1 w p a len cap q vS vJ n f m g T) (hb : Below w.heap.size w w') : DB w1 w' p a len cap q vS vJ n f m g T :=
  ⟨s.lk.below hb, s.cur.kept hb, s.kp.trans (Kept.of_below hb), s.pN⟩
theorem DB.st (s : DB w1 w p a len cap q vS vJ n f m g T) : Dr w p a len cap w := Dr.start s.cur
theorem DB.next {vS' vJ' : Value} (s : DB w1 w p a len cap q vS vJ n f m g T) (l : Lk w1.heap.size q w' vS' vJ' n' f' m' g' T') (hb : Below w1.heap.size w w') : DB w1 w' p a len cap q vS' vJ' n' f' m' g' T' :=
  ⟨l, s.cur.belowN hb s.pN, s.kp.belowN hb (Nat.le_refl _), s.pN⟩
end
theorem ownb {q8 q : Nat} (hq : q ≠ q8) : Value.ownBlock (.slice (some ⟨q8, 0, none⟩) 0 0) ≠ some q := by
  intro k
  have : q8 = q := by simpa [Value.ownBlock] using k
  omega
theorem lit_recsK {K : Nat} {t : TypeId} {w : World} {q n : Nat} {l : List Int} (h : At t w q (lC l).toArray) (hl : l.length = n * K) : Recs K w q n (fun i => l.getD i 0) := by
  refine ⟨h.lt, fun i hi => h.cell i ?_⟩
  have : i < l.length := by omega
  simp [lC, this]
theorem At.keptL {t : TypeId} {w w' : World} {p q : Nat} {vs : Array Value} (h : At t w q vs) (hk : Kept p w w') (hq : q ≠ p) : At t w' q vs := (hk.block q h.lt hq).trans h
/-- What a lab's draw tells. -/
def LbD (w : World) (p : Nat) (a : Option Addr) (len cap : Nat) (e : Ending) (w' : World) : Prop := ∃ vS vJ n f m g T, e = .returned (labV vS vJ T) ∧ n ≤ 100 ∧ m ≤ 300 ∧ (-1000000 ≤ T ∧ T ≤ 1000000) ∧ ArK 3 37 w' w.heap.size w'.heap.size vS n f ∧ ArK 4 39 w' w.heap.size w'.heap.size vJ m g ∧ Kept p w w' ∧ Cur w' p a len cap
set_option maxRecDepth 100000 in
set_option maxHeartbeats 6400000 in
theorem draw17_any (hD : DeedC) {w : World} {p : Nat} {a : Option Addr} {len cap : Nat} (hc : Cur w p a len cap) :
    Calls Try.prog 33 #[.pointer (some ⟨p, 0, none⟩)] w (LbD w p a len cap) := by
  have hpw := hc.lt
  obtain ⟨V1, hV1, A2, b1, -⟩ := boxed w 27 #[.slice none 0 0, .slice none 0 0, .int .i64 0]
  obtain ⟨q2, hq2⟩ : ∃ q, w.heap.size = q := ⟨_, rfl⟩
  rw [hq2] at A2
  have hq2w : w.heap.size ≤ q2 := by omega
  have hc1 := hc.kept b1
  have K1 : Kept p w V1 := Kept.of_below b1
  go_enter Try.func33, Try.ntmps33
  go_wp2_with fail
  clear hV1 hq2
  refine (drawDeeds_any hD hc1).mono ?_
  rintro e w2 ⟨v, m, d, rfl, hm, R⟩
  obtain ⟨g7, c7, rfl⟩ := R.open
  have hw2 := b1.size
  have hpq : p ≠ q2 := by omega
  have A2' : At 27 w2 q2 #[.slice none 0 0, .slice none 0 0, .int .i64 0] := (R.kp.block q2 A2.lt (Ne.symm hpq)).trans A2
  have K2 := K1.trans R.kp
  go_wp2_with fail
  refine (specPlay_any (ark_ls R.own) (by omega)).mono ?_
  rintro e w3 ⟨vS, vJ, vC, rfl, S6, J6, C6, hC6, bb⟩
  have hok : LbOk (ply d m).n (ply d m).f (ply d m).m (ply d m).g (ply d m).T := ply_ok d m
  have hc3 := R.cur.kept bb
  have K3 := K2.trans (Kept.of_below bb)
  have hlo : w.heap.size ≤ w2.heap.size := K2.size
  replace A2' := A2'.below bb
  clear R hc1 K1 K2 C6 hC6 A2
  obtain ⟨L, hL⟩ : ∃ L, ply d m = L := ⟨_, rfl⟩
  rw [hL] at S6 J6 hok
  have hLn : L.n ≤ 100 := hok.1.1
  have hLm : L.m ≤ 300 := hok.2.1.1
  have hLT : -1000000 ≤ L.T ∧ L.T ≤ 1000000 := by
    have := told_le hok.2.1 L.m (Nat.le_refl _)
    rw [hok.2.2]
    omega
  clear hok
  obtain ⟨sS, cS, rfl, -, -⟩ := S6.ls
  obtain ⟨sJ, cJ, rfl, -, -⟩ := J6.ls
  obtain ⟨V4, hV4, A3, b4, -⟩ := boxed w3 27 #[.slice sS L.n cS, .slice sJ L.m cJ, .int .i64 L.T]
  obtain ⟨q3, hq3⟩ : ∃ q, w3.heap.size = q := ⟨_, rfl⟩
  rw [hq3] at A3
  have h23 : q2 ≠ q3 := by have := A2'.lt; omega
  have hq3w : w.heap.size ≤ q3 := by have := bb.size; omega
  have R : DB w V4 p a len cap q3 (.slice sS L.n cS) (.slice sJ L.m cJ) L.n L.f L.m L.g L.T := ⟨⟨A3, ((S6.below b4).wide hlo (Nat.le_refl _)).fit, ((J6.below b4).wide hlo (Nat.le_refl _)).fit, hq3w⟩, hc3.kept b4, K3.trans (Kept.of_below b4), hpw⟩
  replace A2' := A2'.below b4
  rw [hL]
  clear S6 J6 A3 b4 hc3 K3 hL hlo
  go_wp2_with fail
  clear hV4 hq3
  refine (once_dr R.st 30 (by omega) (by omega)).mono ?_
  rintro e w5 ⟨b, rfl, hd⟩
  replace R := R.draw hd
  replace A2' := A2'.keptL hd.1 (Ne.symm hpq)
  clear hd
  cases b
  · skip
    obtain ⟨z0, z1, z2, -⟩ := R.lk.bx.open3
    obtain ⟨d0, d1, d2, e0, e1, e2⟩ := A2'.open3
    go_wp2
    have a7 := put3_at A2' (.slice sS L.n cS) (.slice sJ L.m cJ) (.int .i64 L.T)
    obtain ⟨p0, p1, p2, -⟩ := a7.open3
    have U := put3_only w5 q2 (.slice sS L.n cS) (.slice sJ L.m cJ) (.int .i64 L.T)
    have bl := below_put3 (Below.refl w.heap.size w5) hq2w (.slice sS L.n cS) (.slice sJ L.m cJ) (.int .i64 L.T)
    refine bodyPost_ret (v := labV (.slice sS L.n cS) (.slice sJ L.m cJ) L.T) (by simp [results, Try.results33, go_sem, p0, p1, p2]) rfl ?_
    exact ⟨_, _, _, _, _, _, _, rfl, hLn, hLm, hLT, (R.lk.S.only U (apart_box (R.lk.S.box A2' (by decide)))).fit, (R.lk.J.only U (apart_box (R.lk.J.box A2' (by decide)))).fit, R.kp.belowN bl (Nat.le_refl _), R.cur.belowN bl R.pN⟩
  · obtain ⟨z0, z1, z2, y0, y1, y2⟩ := R.lk.bx.open3
    have bx := put3_at R.lk.bx (.slice none 0 0) (.slice none 0 0) (.int .i64 0)
    have bl := below_put3 (Below.refl w.heap.size w5) hq3w (.slice none 0 0) (.slice none 0 0) (.int .i64 0)
    have a2 := A2'.only (put3_only w5 q3 (.slice none 0 0) (.slice none 0 0) (.int .i64 0)) (ownb h23)
    have R2 := R.next (vS' := .slice none 0 0) (vJ' := .slice none 0 0) (n' := 0) (f' := fun _ => 0) (m' := 0) (g' := fun _ => 0) ⟨bx, .inl ⟨rfl, rfl⟩, .inl ⟨rfl, rfl⟩, hq3w⟩ bl
    obtain ⟨w6, hw6⟩ : ∃ V, ((w5.setCell ⟨q3, 0, none⟩ (.slice none 0 0)).setCell ⟨q3, 1, none⟩ (.slice none 0 0)).setCell ⟨q3, 2, none⟩ (.int .i64 0) = V := ⟨_, rfl⟩
    rw [hw6] at R2 a2
    clear bx bl R A2' hLn hLm hLT
    go_wp2
    clear hw6 z0 z1 z2 y0 y1 y2
    go_loopw [5] (fun s wr => ∃ (k : Nat) (vS : Value) (f : Nat → Int), k ≤ 100 ∧ s = .int .i64 ((k : Int) + 1) ∧ DB w wr p a len cap q3 vS (.slice none 0 0) k f 0 (fun _ => 0) 0 ∧ At 27 wr q2 #[.slice none 0 0, .slice none 0 0, .int .i64 0]) (fun s _ => 101 - (intOf s).toNat)
    case atStart => exact ⟨0, _, _, Nat.zero_le _, rfl, R2, a2⟩
    case round =>
      clear R2 a2
      obtain ⟨k, vS, f, hk, rfl, R, A2'⟩ := hrel
      by_cases hkn : k < 100
      · have hkn' : (k : Int) + 1 ≤ 100 := by omega
        obtain ⟨V9, hV9, A9, b9, -⟩ := boxed wr 37 #[.int .i64 (2 * ((k : Int) + 1)), .int .i64 1, .int .i64 5]
        have R9 := R.below b9
        have A29 := A2'.below b9
        obtain ⟨gx, hgx⟩ : ∃ q, wr.heap.size = q := ⟨_, rfl⟩
        rw [hgx] at A9
        have hb2 : ∀ w, (Instr.buildSlice 24 1 #[(0, .agg #[.int .i64 (2 * ((k : Int) + 1)), .int .i64 1, .int .i64 5])]).run Try.prog w = .ok (.slice (some ⟨w.heap.size, 0, none⟩) 1 1) (w.alloc (.cells #[.int .i64 (2 * ((k : Int) + 1)), .int .i64 1, .int .i64 5] 37)) := fun _ => by kernel_rfl
        obtain ⟨sX, cX, rfl, -, -⟩ := R.lk.S.ls
        obtain ⟨z0, z1, z2, -⟩ := R.lk.bx.open3
        go_wp2_with (at_builtin; refine Hid.out (?_ : Hid _))
        clear hb2 hV9 hgx b9 R A2' z0 z1 z2
        refine (?_ : wpList _ _ _ _ _ _)
        refine wpListK_append Try.underlying24 infoSample rfl (by omega) (by omega) V9 rfl _ _ rfl rfl R9.lk.S rfl (.inr ⟨gx, rfl, lit_recsK (l := [2 * ((k : Int) + 1), 1, 5]) A9 rfl⟩) (fun h => by cases h) (by omega) R9.kp.size ?_
        intro v' u3 C' ho hN
        have l3 := lk_putS (R9.lk.bx.only ho (R9.lk.S.box R9.lk.bx (by decide))) C' (R9.lk.J.only ho (R9.lk.S.apart R9.lk.J (by decide))) hq3w
        have bl := ho.belowK R9.lk.S (Nat.le_refl _) (Below.refl w.heap.size V9) R9.kp.size
        have R3 := R9.next l3.1 (bl.trans l3.2)
        have a2 := (A29.only ho (R9.lk.S.box A29 (by decide))).setOther h23 (i := 0) v'
        obtain ⟨sY, cY, rfl, -, -⟩ := C'.ls
        have bx9 := R9.lk.bx.only ho (R9.lk.S.box R9.lk.bx (by decide))
        obtain ⟨z0, z1, z2, y0, y1, y2⟩ := bx9.open3
        obtain ⟨w7, hw7⟩ : ∃ V, u3.setCell ⟨q3, 0, none⟩ (.slice sY (k + 1) cY) = V := ⟨_, rfl⟩
        rw [hw7] at R3 a2
        clear C' ho hN A9 R9 l3 bl A29 bx9
        go_wp2
        exact ⟨⟨k + 1, _, _, by omega, by go_num, R3, a2⟩, by simp [intOf]; omega⟩
      · have hkn' : ¬ (k : Int) + 1 ≤ 100 := by omega
        obtain rfl : k = 100 := by omega
        go_wp2
        go_loopw [6] (fun s wr => ∃ (k : Nat) (vJ : Value) (g : Nat → Int), k ≤ 300 ∧ s = .int .i64 ((k : Int) + 1) ∧ DB w wr p a len cap q3 vS vJ 100 f k g 0 ∧ At 27 wr q2 #[.slice none 0 0, .slice none 0 0, .int .i64 0]) (fun s _ => 301 - (intOf s).toNat)
        case atStart => exact ⟨0, _, _, Nat.zero_le _, rfl, R, A2'⟩
        case round =>
          clear R A2'
          obtain ⟨k, vJ, g, hk, rfl, R, A2'⟩ := hrel
          by_cases hkn : k < 300
          · have hkn' : (k : Int) + 1 ≤ 300 := by omega
            obtain ⟨V9, hV9, A9, b9, -⟩ := boxed wr 39 #[.int .i64 2, .int .i64 ((k : Int) + 1), .int .i64 1, .int .i64 1]
            have R9 := R.below b9
            have A29 := A2'.below b9
            obtain ⟨gx, hgx⟩ : ∃ q, wr.heap.size = q := ⟨_, rfl⟩
            rw [hgx] at A9
            have hb2 : ∀ w, (Instr.buildSlice 25 1 #[(0, .agg #[.int .i64 2, .int .i64 ((k : Int) + 1), .int .i64 1, .int .i64 1])]).run Try.prog w = .ok (.slice (some ⟨w.heap.size, 0, none⟩) 1 1) (w.alloc (.cells #[.int .i64 2, .int .i64 ((k : Int) + 1), .int .i64 1, .int .i64 1] 39)) := fun _ => by kernel_rfl
            obtain ⟨sX, cX, rfl, -, -⟩ := R.lk.J.ls
            obtain ⟨z0, z1, z2, -⟩ := R.lk.bx.open3
            go_wp2_with (at_builtin; refine Hid.out (?_ : Hid _))
            clear hb2 hV9 hgx b9 R A2' z0 z1 z2
            refine (?_ : wpList _ _ _ _ _ _)
            refine wpListK_append Try.underlying25 infoJob rfl (by omega) (by omega) V9 rfl _ _ rfl rfl R9.lk.J rfl (.inr ⟨gx, rfl, lit_recsK (l := [2, (k : Int) + 1, 1, 1]) A9 rfl⟩) (fun h => by cases h) (by omega) R9.kp.size ?_
            intro v' u3 C' ho hN
            have l3 := lk_putJ (R9.lk.bx.only ho (R9.lk.J.box R9.lk.bx (by decide))) (R9.lk.S.only ho (R9.lk.J.apart R9.lk.S (by decide))) C' hq3w
            have bl := ho.belowK R9.lk.J (Nat.le_refl _) (Below.refl w.heap.size V9) R9.kp.size
            have R3 := R9.next l3.1 (bl.trans l3.2)
            have a2 := (A29.only ho (R9.lk.J.box A29 (by decide))).setOther h23 (i := 1) v'
            obtain ⟨sY, cY, rfl, -, -⟩ := C'.ls
            have bx9 := R9.lk.bx.only ho (R9.lk.J.box R9.lk.bx (by decide))
            obtain ⟨z0, z1, z2, y0, y1, y2⟩ := bx9.open3
            obtain ⟨w7, hw7⟩ : ∃ V, u3.setCell ⟨q3, 1, none⟩ (.slice sY (k + 1) cY) = V := ⟨_, rfl⟩
            rw [hw7] at R3 a2
            clear C' ho hN A9 R9 l3 bl A29 bx9
            go_wp2
            exact ⟨⟨k + 1, _, _, by omega, by go_num, R3, a2⟩, by simp [intOf]; omega⟩
          · have hkn' : ¬ (k : Int) + 1 ≤ 300 := by omega
            obtain rfl : k = 300 := by omega
            obtain ⟨sS, cS, rfl, -, -⟩ := R.lk.S.ls
            obtain ⟨sJ, cJ, rfl, -, -⟩ := R.lk.J.ls
            obtain ⟨z0, z1, z2, -⟩ := R.lk.bx.open3
            obtain ⟨d0, d1, d2, e0, e1, e2⟩ := A2'.open3
            go_wp2
            have a7 := put3_at A2' (.slice sS 100 cS) (.slice sJ 300 cJ) (.int .i64 0)
            obtain ⟨p0, p1, p2, -⟩ := a7.open3
            have U := put3_only wr q2 (.slice sS 100 cS) (.slice sJ 300 cJ) (.int .i64 0)
            have bl := below_put3 (Below.refl w.heap.size wr) hq2w (.slice sS 100 cS) (.slice sJ 300 cJ) (.int .i64 0)
            refine bodyPost_ret (v := labV (.slice sS 100 cS) (.slice sJ 300 cJ) 0) (by simp [results, Try.results33, go_sem, p0, p1, p2]) rfl ?_
            exact ⟨_, _, _, _, _, _, _, rfl, (Nat.le_refl 100), (Nat.le_refl 300), ⟨by omega, by omega⟩, (R.lk.S.only U (apart_box (R.lk.S.box A2' (by decide)))).fit, (R.lk.J.only U (apart_box (R.lk.J.box A2' (by decide)))).fit, R.kp.belowN bl (Nat.le_refl _), R.cur.belowN bl R.pN⟩
end Go.Proofs.Ytnjnffemidaopaa
