/-
  FindBasis by the specification, walked.
-/
import Derived.Test.YtjlmiadmobbibaaCf9
namespace Go.Proofs.Ytjlmiadmobbibaa
open Go.RowKit

/-- The numbers of ways. -/
def fl3 : List (Int × Int) → List Int
  | [] => []
  | p :: l => p.1 :: p.2 :: 0 :: fl3 l
theorem fl3_len (l : List (Int × Int)) : (fl3 l).length = l.length * 3 := by
  induction l with
  | nil => rfl
  | cons p l ih => simp [fl3, ih]; omega
theorem fl3_append (l m : List (Int × Int)) : fl3 (l ++ m) = fl3 l ++ fl3 m := by
  induction l with
  | nil => rfl
  | cons p l ih => simp [fl3, ih]
theorem fl3_at (l : List (Int × Int)) {i : Nat} (h : i < l.length) : (fl3 l).getD (i * 3) 0 = (l.getD i (0, 0)).1 ∧ (fl3 l).getD (i * 3 + 1) 0 = (l.getD i (0, 0)).2 ∧ (fl3 l).getD (i * 3 + 2) 0 = 0 := by
  induction l generalizing i with
  | nil => simp at h
  | cons p l ih =>
    cases i with
    | zero => simp [fl3]
    | succ i =>
      have := ih (i := i) (by simpa using h)
      have e1 : (i + 1) * 3 = i * 3 + 1 + 1 + 1 := by omega
      rw [e1]
      simpa [fl3] using this
theorem news3w {w : World} {t : TypeId} {g : Nat} {x y z : Int} (h : At t w g #[.int .i64 x, .int .i64 y, .int .i64 z]) : ∀ j u, (lCells [x, y, z])[j]? = some u → w.cell? ((⟨g, 0, none⟩ : Addr).add j) = some u := by
  intro j u hu
  rcases j with _ | _ | _ | j
  · simp [lCells] at hu; subst hu; exact h.cell 0 rfl
  · simp [lCells] at hu; subst hu; exact h.cell 1 rfl
  · simp [lCells] at hu; subst hu; exact h.cell 2 rfl
  · simp [lCells] at hu
/-- Ways that lie in block g. -/
def Wps (w : World) (g : Nat) (l : List (Int × Int)) : Prop := g < w.heap.size ∧ ∀ i, i < l.length → w.cell? ⟨g, i * 3, none⟩ = some (.int .i64 (l.getD i (0, 0)).1) ∧ w.cell? ⟨g, i * 3 + 1, none⟩ = some (.int .i64 (l.getD i (0, 0)).2) ∧ w.cell? ⟨g, i * 3 + 2, none⟩ = some (.int .i64 0)
theorem Wps.below {w w' : World} {g : Nat} {l : List (Int × Int)} (h : Wps w g l) (hb : Below w.heap.size w w') : Wps w' g l :=
  ⟨Nat.lt_of_lt_of_le h.1 hb.size, fun i hi => ⟨(hb.cell (p := ⟨g, i * 3, none⟩) h.1).trans (h.2 i hi).1, (hb.cell (p := ⟨g, i * 3 + 1, none⟩) h.1).trans (h.2 i hi).2.1, (hb.cell (p := ⟨g, i * 3 + 2, none⟩) h.1).trans (h.2 i hi).2.2⟩⟩
theorem Gat.wps {w0 w : World} {B : Nat} {t : TypeId} {v : Value} {m : Nat} {l : List (Int × Int)} (s : Gat w0 w B t 3 v m (fl3 l)) : m = l.length ∧ ∃ g c, v = .slice (some ⟨g, 0, none⟩) m c ∧ B ≤ g ∧ Wps w g l := by
  obtain ⟨g, c, e, h1, h2, h3, h4⟩ := s.open
  have hl := s.len
  rw [fl3_len] at hl
  refine ⟨by omega, g, c, e, h1, h3, fun i hi => ?_⟩
  obtain ⟨a1, a2, a3⟩ := fl3_at l hi
  have b1 := h4 (i * 3) (by rw [fl3_len]; omega)
  have b2 := h4 (i * 3 + 1) (by rw [fl3_len]; omega)
  have b3 := h4 (i * 3 + 2) (by rw [fl3_len]; omega)
  rw [a1] at b1
  rw [a2] at b2
  rw [a3] at b3
  exact ⟨b1, b2, b3⟩
/-- The ways found behind i rows and k more. -/
def WS (n : Nat) (f : Nat → Int) (i k : Nat) (L : List (Int × Int)) : Prop := ∀ p, p ∈ L ↔ (p ≠ (0, 0) ∧ ∃ a b, ((a < i ∧ b < n) ∨ (a = i ∧ b < k)) ∧ lpp f b a = p)
theorem WS.skip {n : Nat} {f : Nat → Int} {i k : Nat} {L : List (Int × Int)} (h : WS n f i k L) (ht : lpp f k i = (0, 0) ∨ lpp f k i ∈ L) : WS n f i (k + 1) L := fun p => by
  constructor
  · intro hp
    obtain ⟨h1, a, b, hab, e⟩ := (h p).1 hp
    exact ⟨h1, a, b, by omega, e⟩
  · rintro ⟨h1, a, b, hab, e⟩
    by_cases e2 : a = i ∧ b = k
    · obtain ⟨rfl, rfl⟩ := e2
      rcases ht with ht | ht
      · exact absurd (e.symm.trans ht) h1
      · rw [← e]; exact ht
    · exact (h p).2 ⟨h1, a, b, by omega, e⟩
theorem WS.add {n : Nat} {f : Nat → Int} {i k : Nat} {L : List (Int × Int)} (h : WS n f i k L) (ht : lpp f k i ≠ (0, 0)) : WS n f i (k + 1) (L ++ [lpp f k i]) := fun p => by
  rw [List.mem_append, List.mem_singleton]
  constructor
  · rintro (hp | rfl)
    · obtain ⟨h1, a, b, hab, e⟩ := (h p).1 hp
      exact ⟨h1, a, b, by omega, e⟩
    · exact ⟨ht, i, k, by omega, rfl⟩
  · rintro ⟨h1, a, b, hab, e⟩
    by_cases e2 : a = i ∧ b = k
    · obtain ⟨rfl, rfl⟩ := e2
      exact .inr e.symm
    · exact .inl ((h p).2 ⟨h1, a, b, by omega, e⟩)
theorem WS.row {n : Nat} {f : Nat → Int} {i : Nat} {L : List (Int × Int)} (h : WS n f i n L) : WS n f (i + 1) 0 L := fun p => by
  rw [h p]
  constructor
  · rintro ⟨h1, a, b, hab, e⟩; exact ⟨h1, a, b, by omega, e⟩
  · rintro ⟨h1, a, b, hab, e⟩; exact ⟨h1, a, b, by omega, e⟩
theorem WS.all {n : Nat} {f : Nat → Int} {L : List (Int × Int)} (h : WS n f n 0 L) (p : Int × Int) : p ∈ L ↔ LP n f p := by
  rw [h p]
  constructor
  · rintro ⟨h1, a, b, hab, e⟩; exact ⟨h1, b, by omega, a, by omega, e⟩
  · rintro ⟨h1, b, hb, a, ha, e⟩; exact ⟨h1, a, b, .inl ⟨ha, hb⟩, e⟩
theorem LP.wi {n : Nat} {f : Nat → Int} {p : Int × Int} (hs : SpOk n f) (h : LP n f p) : Wi p.1 ∧ Wi p.2 := by
  obtain ⟨-, i, hi, k, hk, rfl⟩ := h
  exact hs.wi hk hi
/-- The way is none, or among the first j. -/
def Thr (L : List (Int × Int)) (x y : Int) (j : Nat) : Prop := (x, y) = (0, 0) ∨ ∃ t, t < j ∧ L.getD t (0, 0) = (x, y)
theorem Thr.yes {L : List (Int × Int)} {x y : Int} {j : Nat} (h : L.getD j (0, 0) = (x, y)) : Thr L x y (j + 1) := .inr ⟨j, by omega, h⟩
theorem Thr.no {L : List (Int × Int)} {x y : Int} {j : Nat} (h0 : ¬ Thr L x y j) (h : L.getD j (0, 0) ≠ (x, y)) : ¬ Thr L x y (j + 1) := by
  rintro (h1 | ⟨t, ht, h1⟩)
  · exact h0 (.inl h1)
  · by_cases e : t = j
    · subst e; exact h h1
    · exact h0 (.inr ⟨t, by omega, h1⟩)
theorem Thr.end {L : List (Int × Int)} {x y : Int} {j : Nat} (h : Thr L x y j) (hj : j ≤ L.length) : (x, y) = (0, 0) ∨ (x, y) ∈ L := by
  rcases h with h | ⟨t, ht, h⟩
  · exact .inl h
  · exact .inr (mem_getD.2 ⟨t, by omega, h⟩)
/-- The best so far. -/
def Bst (C : Cd → Prop) (r : Cd) : Prop := ((∀ x, ¬ C x) ∧ r = ⟨0, 0, 0, 0, 0⟩) ∨ (C r ∧ ∀ x, C x → ¬ clt x r)
theorem Bst.new {C C' : Cd → Prop} {r x : Cd} (h : Bst C r) (hC : ∀ z, C' z ↔ (C z ∨ z = x)) (hn : (∀ z, ¬ C z) ∨ clt x r) : Bst C' x := by
  refine .inr ⟨(hC x).2 (.inr rfl), fun z hz hl => ?_⟩
  rcases (hC z).1 hz with h1 | rfl
  · rcases hn with hn | hn
    · exact hn z h1
    · rcases h with ⟨h2, -⟩ | ⟨-, h3⟩
      · exact h2 z h1
      · exact h3 z h1 (clt_swo.tr _ _ _ hl hn)
  · exact clt_swo.irr _ hl
theorem Bst.old {C C' : Cd → Prop} {r x : Cd} (h : Bst C r) (hC : ∀ z, C' z ↔ (C z ∨ z = x)) (hr : C r) (hn : ¬ clt x r) : Bst C' r := by
  refine .inr ⟨(hC r).2 (.inl hr), fun z hz => ?_⟩
  rcases h with ⟨h2, -⟩ | ⟨-, h3⟩
  · exact absurd hr (h2 r)
  · rcases (hC z).1 hz with h1 | rfl
    · exact h3 z h1
    · exact hn
theorem Bst.congr {C C' : Cd → Prop} {r : Cd} (h : Bst C r) (hC : ∀ z, C' z ↔ C z) : Bst C' r := by
  rcases h with ⟨h2, e⟩ | ⟨h1, h3⟩
  · exact .inl ⟨fun z hz => h2 z ((hC z).1 hz), e⟩
  · exact .inr ⟨(hC r).2 h1, fun z hz => h3 z ((hC z).1 hz)⟩
set_option maxRecDepth 100000 in
set_option maxHeartbeats 8000000 in
theorem specFind_any {w : World} {g n cp : Nat} {f : Nat → Int} (h : Trips w g n f) (hn : n ≤ 1048576) :
    Calls Try.prog 9 #[.slice (some ⟨g, 0, none⟩) n cp] w (FbP w n f) := by
  obtain ⟨i0, hi0, hz0, hz1, hz2⟩ := info_parts infoSpot
  obtain ⟨V, hV, A0, bW0, -⟩ := boxed w 27 #[.int .i64 0, .int .i64 0, .int .i64 0, .int .i64 0]
  obtain ⟨V1, hV1, A1, b1, -⟩ := boxed V 27 #[.int .i64 0, .int .i64 0, .int .i64 0, .int .i64 0]
  have A00 := A0.below b1
  have bW1 := bW0.trans (b1.mono bW0.size)
  obtain ⟨p4, hp4⟩ : ∃ p, V.heap.size = p := ⟨_, rfl⟩
  have hwp4 : w.heap.size < V.heap.size := A0.lt
  obtain ⟨s0, s1, s2, s3, t0, t1, t2, t3⟩ := A1.open4
  obtain ⟨V2, hV2, A1', A01, bW⟩ : ∃ U, (((V1.setCell ⟨V.heap.size, 0, none⟩ (.int .i64 0)).setCell ⟨V.heap.size, 1, none⟩ (.int .i64 0)).setCell ⟨V.heap.size, 2, none⟩ (.int .i64 0)).setCell ⟨V.heap.size, 3, none⟩ (.int .i64 0) = U ∧ At 27 U V.heap.size #[.int .i64 0, .int .i64 0, .int .i64 0, .int .i64 0] ∧ At 27 U w.heap.size #[.int .i64 0, .int .i64 0, .int .i64 0, .int .i64 0] ∧ Below w.heap.size w U := ⟨_, rfl, put4_atC A1 _ _ _ _, (((A00.setOther (by omega) _).setOther (by omega) _).setOther (by omega) _).setOther (by omega) _, below_put4C bW1 (by omega) _ _ _ _⟩
  replace A1 := A1'
  have hb0 : ∀ w, (Instr.buildSlice 24 0 #[]).run Try.prog w = .ok (.slice (some ⟨w.heap.size, 0, none⟩) 0 0) (w.alloc (.cells #[] 32)) := fun _ => by kernel_rfl
  have HP4 : Hid (V.heap.size = p4) := hp4
  clear b1 bW0 A0 A00 bW1 hp4 A1'
  go_enter Try.func9, Try.ntmps9
  go_wp2_with fail
  refine (specSpots_any (h.below bW) hn).mono ?_
  rintro e w2 ⟨rfl, bb⟩
  replace A01 := A01.below bb
  replace A1 := A1.below bb
  replace bW := bW.trans (bb.mono bW.size)
  rw [HP4.out] at A1 hwp4 ⊢
  clear bb hV hV1 HP4 hV2 s0 s1 s2 s3 t0 t1 t2 t3
  by_cases hs : SpOk n f
  case neg =>
    rw [pd_no hs]
    have A2 := put4_atC A01 (.int .i64 0) (.int .i64 0) (.int .i64 0) (.int .i64 0)
    have B2 := below_put4C bW (Nat.le_refl _) (.int .i64 0) (.int .i64 0) (.int .i64 0) (.int .i64 0)
    obtain ⟨c0, c1, c2, c3, k0, k1, k2, k3⟩ := A01.open4
    obtain ⟨e0, e1, e2, e3, -⟩ := A1.open4
    obtain ⟨d0, d1, d2, d3, -⟩ := A2.open4
    clear A01 A1 A2 bW
    go_wp2
    exact bodyPost_ret (v := .tuple #[bV 0 0 0 0, .int .i64 0]) (by simp [results, Try.results9, go_sem, d0, d1, d2, d3]) rfl ⟨⟨0, 0, 0, 0, 0⟩, rfl, .inl ⟨hs, rfl⟩, B2⟩
  rw [pd_yes hs]
  have hn16 := hs.1
  have hn' : (n : Int) ≤ 16 := by omega
  obtain ⟨W3, hW3, a3, bb, -⟩ := boxed w2 32 #[]
  have R : Gat w2 W3 w2.heap.size 32 3 (.slice (some ⟨w2.heap.size, 0, none⟩) 0 0) 0 [] := Gat.start a3 bb
  have hS0 : WS n f 0 0 [] := fun p => ⟨(fun h => by cases h), (fun ⟨_, a, b, hab, _⟩ => by omega)⟩
  clear bb a3
  go_wp2
  clear hW3
  go_loopw [6, 7] (fun s t wr => ∃ (i m : Nat) (L : List (Int × Int)), i ≤ n ∧ L.length = m ∧ m ≤ i * 16 ∧ t = .int .i64 (i : Int) ∧ WS n f i 0 L ∧ Gat w2 wr w2.heap.size 32 3 s m (fl3 L)) (fun _ t _ => n - (intOf t).toNat)
  case atStart => exact ⟨0, 0, [], Nat.zero_le _, rfl, Nat.le_refl _, rfl, hS0, R⟩
  case round =>
    clear R hS0
    obtain ⟨i, m, L, hi, hm, hmi, rfl, hWS, R⟩ := hrel
    by_cases hlt : i < n
    · have hlt' : (i : Int) < (n : Int) := by omega
      have HM0 : Hid (L.length = m) := hm
      clear hm
      go_wp2
      go_loopw [6, 8] (fun s t wr => ∃ (k m : Nat) (L : List (Int × Int)), k ≤ n ∧ L.length = m ∧ m ≤ i * 16 + k ∧ t = .int .i64 (k : Int) ∧ WS n f i k L ∧ Gat w2 wr w2.heap.size 32 3 s m (fl3 L)) (fun _ t _ => n - (intOf t).toNat)
      case atStart => exact ⟨0, m, L, Nat.zero_le _, HM0.out, hmi, rfl, hWS, R⟩
      case round =>
        clear R hWS hmi HM0
        obtain ⟨k, m, L, hk, hm, hmk, rfl, hWS, R⟩ := hrel
        by_cases hkt : k < n
        · have hkt' : (k : Int) < (n : Int) := by omega
          have hi0' : (0 : Int) ≤ (i : Int) := by omega
          have hk0' : (0 : Int) ≤ (k : Int) := by omega
          have hT := (h.below bW).below R.b
          obtain ⟨c0, c1, -⟩ := hT.open i hlt
          obtain ⟨d0, d1, -⟩ := hT.open k hkt
          obtain ⟨p1, p2⟩ := hs.2 i hlt
          obtain ⟨p3, p4'⟩ := hs.2 k hkt
          have hlp : lpp f k i = (f (i * 3) - f (k * 3), f (i * 3 + 1) - f (k * 3 + 1)) := rfl
          obtain ⟨X1, hX1⟩ : ∃ X, f (i * 3) = X := ⟨_, rfl⟩
          obtain ⟨X2, hX2⟩ : ∃ X, f (k * 3) = X := ⟨_, rfl⟩
          obtain ⟨Y1, hY1⟩ : ∃ X, f (i * 3 + 1) = X := ⟨_, rfl⟩
          obtain ⟨Y2, hY2⟩ : ∃ X, f (k * 3 + 1) = X := ⟨_, rfl⟩
          rw [hX1] at c0 p1
          rw [hY1] at c1 p2
          rw [hX2] at d0 p3
          rw [hY2] at d1 p4'
          rw [hX1, hX2, hY1, hY2] at hlp
          have w1 : IntKind.i64.wrap (X1 - X2) = X1 - X2 := by rw [IntKind.wrap_i64]; omega
          have w2' : IntKind.i64.wrap (Y1 - Y2) = Y1 - Y2 := by rw [IntKind.wrap_i64]; omega
          obtain ⟨x, hx⟩ : ∃ x, X1 - X2 = x := ⟨_, rfl⟩
          obtain ⟨y, hy⟩ : ∃ y, Y1 - Y2 = y := ⟨_, rfl⟩
          rw [hx] at w1
          rw [hy] at w2'
          rw [hx, hy] at hlp
          have SK : Hid ((x, y) = (0, 0) ∨ (x, y) ∈ L → WS n f i (k + 1) L) := Hid.out fun ht => hWS.skip (by rw [hlp]; exact ht)
          have SA : Hid ((x, y) ≠ (0, 0) → WS n f i (k + 1) (L ++ [(x, y)])) := Hid.out fun ht => by have := hWS.add (by rw [hlp]; exact ht); rwa [hlp] at this
          have hg : g < wr.heap.size := hT.1
          clear hT hlp hX1 hX2 hY1 hY2 p1 p2 p3 p4' hWS
          go_upto_region 12 with (fail)
          obtain ⟨u0, hu0, bb⟩ : ∃ uu, wr.drew = uu ∧ Below wr.heap.size wr uu := ⟨_, rfl, (Below.refl _ _).drew⟩
          replace R := R.below bb
          replace c0 := (bb.cell (p := ⟨g, i * 3, none⟩) hg).trans c0
          replace c1 := (bb.cell (p := ⟨g, i * 3 + 1, none⟩) hg).trans c1
          replace d0 := (bb.cell (p := ⟨g, k * 3, none⟩) hg).trans d0
          replace d1 := (bb.cell (p := ⟨g, k * 3 + 1, none⟩) hg).trans d1
          replace hg := Nat.lt_of_lt_of_le hg bb.size
          clear bb
          refine wp_region_held_drew (S := Kb u0) (by kernel_rfl) (by rw [hu0]; exact Below.refl _ _) (fun hHeld => ?_)
          rw [hu0] at hHeld ⊢
          clear hu0
          have bu : Kb u0 u0 := Below.refl _ _
          change wpAnyH _ _ _ _ _ 25 #[false, false, false, false, false, false, false, false, false, false, false, false, false, false, false, false, false, false, false, false, false, false, false, false, false] _ _
          refine wpAnyH_take (i := 0) (v := .slice ((some ⟨g, 0, none⟩)) n cp) rfl (by kernel_rfl) (by kernel_rfl) (by kernel_rfl) (fun _ _ _ h => h) (Or.inl ⟨by kernel_rfl, ?_⟩) hHeld ?_
          · intro w' hSw; go_simp
          try simp only [Act.put, List.setIfInBounds_toArray, List.set_cons_zero, List.set_cons_succ, List.getElem_toArray, List.getElem_cons_zero]
          refine wpAnyH_take (i := 1) (v := .int .i64 ((i : Int))) rfl (by kernel_rfl) (by kernel_rfl) (by kernel_rfl) (fun _ _ _ h => h) (Or.inl ⟨by kernel_rfl, ?_⟩) hHeld ?_
          · intro w' hSw; go_simp
          try simp only [Act.put, List.setIfInBounds_toArray, List.set_cons_zero, List.set_cons_succ, List.getElem_toArray, List.getElem_cons_succ, List.getElem_cons_zero]
          refine wpAnyH_take (i := 2) (v := .pointer (some ⟨g, i * 3, none⟩)) rfl (by kernel_rfl) (by kernel_rfl) (by kernel_rfl) (fun _ _ _ h => h) (Or.inl ⟨by kernel_rfl, ?_⟩) hHeld ?_
          · intro w' hSw; go_simp
          try simp only [Act.put, List.setIfInBounds_toArray, List.set_cons_zero, List.set_cons_succ, List.getElem_toArray, List.getElem_cons_succ, List.getElem_cons_zero]
          refine wpAnyH_take (i := 3) (v := .pointer (some ⟨g, i * 3, none⟩)) rfl (by kernel_rfl) (by kernel_rfl) (by kernel_rfl) (fun _ _ _ h => h) (Or.inl ⟨by kernel_rfl, ?_⟩) hHeld ?_
          · intro w' hSw; go_simp
          try simp only [Act.put, List.setIfInBounds_toArray, List.set_cons_zero, List.set_cons_succ, List.getElem_toArray, List.getElem_cons_succ, List.getElem_cons_zero]
          refine wpAnyH_take (i := 4) (v := .int .i64 (X1)) rfl (by kernel_rfl) (by kernel_rfl) (by kernel_rfl) (fun _ _ _ h => h) (Or.inl ⟨by kernel_rfl, ?_⟩) hHeld ?_
          · intro w' hSw; have z0 := (Below.cell (p := ⟨g, i * 3, none⟩) hSw hg).trans c0; go_simp
          try simp only [Act.put, List.setIfInBounds_toArray, List.set_cons_zero, List.set_cons_succ, List.getElem_toArray, List.getElem_cons_succ, List.getElem_cons_zero]
          refine wpAnyH_take (i := 5) (v := .slice ((some ⟨g, 0, none⟩)) n cp) rfl (by kernel_rfl) (by kernel_rfl) (by kernel_rfl) (fun _ _ _ h => h) (Or.inl ⟨by kernel_rfl, ?_⟩) hHeld ?_
          · intro w' hSw; go_simp
          try simp only [Act.put, List.setIfInBounds_toArray, List.set_cons_zero, List.set_cons_succ, List.getElem_toArray, List.getElem_cons_succ, List.getElem_cons_zero]
          refine wpAnyH_take (i := 6) (v := .int .i64 ((k : Int))) rfl (by kernel_rfl) (by kernel_rfl) (by kernel_rfl) (fun _ _ _ h => h) (Or.inl ⟨by kernel_rfl, ?_⟩) hHeld ?_
          · intro w' hSw; go_simp
          try simp only [Act.put, List.setIfInBounds_toArray, List.set_cons_zero, List.set_cons_succ, List.getElem_toArray, List.getElem_cons_succ, List.getElem_cons_zero]
          refine wpAnyH_take (i := 7) (v := .pointer (some ⟨g, k * 3, none⟩)) rfl (by kernel_rfl) (by kernel_rfl) (by kernel_rfl) (fun _ _ _ h => h) (Or.inl ⟨by kernel_rfl, ?_⟩) hHeld ?_
          · intro w' hSw; go_simp
          try simp only [Act.put, List.setIfInBounds_toArray, List.set_cons_zero, List.set_cons_succ, List.getElem_toArray, List.getElem_cons_succ, List.getElem_cons_zero]
          refine wpAnyH_take (i := 8) (v := .pointer (some ⟨g, k * 3, none⟩)) rfl (by kernel_rfl) (by kernel_rfl) (by kernel_rfl) (fun _ _ _ h => h) (Or.inl ⟨by kernel_rfl, ?_⟩) hHeld ?_
          · intro w' hSw; go_simp
          try simp only [Act.put, List.setIfInBounds_toArray, List.set_cons_zero, List.set_cons_succ, List.getElem_toArray, List.getElem_cons_succ, List.getElem_cons_zero]
          refine wpAnyH_take (i := 9) (v := .int .i64 (X2)) rfl (by kernel_rfl) (by kernel_rfl) (by kernel_rfl) (fun _ _ _ h => h) (Or.inl ⟨by kernel_rfl, ?_⟩) hHeld ?_
          · intro w' hSw; have z0 := (Below.cell (p := ⟨g, k * 3, none⟩) hSw hg).trans d0; go_simp
          try simp only [Act.put, List.setIfInBounds_toArray, List.set_cons_zero, List.set_cons_succ, List.getElem_toArray, List.getElem_cons_succ, List.getElem_cons_zero]
          refine wpAnyH_take (i := 10) (v := .int .i64 (x)) rfl (by kernel_rfl) (by kernel_rfl) (by kernel_rfl) (fun _ _ _ h => h) (Or.inl ⟨by kernel_rfl, ?_⟩) hHeld ?_
          · intro w' hSw; go_simp
          try simp only [Act.put, List.setIfInBounds_toArray, List.set_cons_zero, List.set_cons_succ, List.getElem_toArray, List.getElem_cons_succ, List.getElem_cons_zero]
          refine wpAnyH_take (i := 11) (v := .slice ((some ⟨g, 0, none⟩)) n cp) rfl (by kernel_rfl) (by kernel_rfl) (by kernel_rfl) (fun _ _ _ h => h) (Or.inl ⟨by kernel_rfl, ?_⟩) hHeld ?_
          · intro w' hSw; go_simp
          try simp only [Act.put, List.setIfInBounds_toArray, List.set_cons_zero, List.set_cons_succ, List.getElem_toArray, List.getElem_cons_succ, List.getElem_cons_zero]
          refine wpAnyH_take (i := 12) (v := .int .i64 ((i : Int))) rfl (by kernel_rfl) (by kernel_rfl) (by kernel_rfl) (fun _ _ _ h => h) (Or.inl ⟨by kernel_rfl, ?_⟩) hHeld ?_
          · intro w' hSw; go_simp
          try simp only [Act.put, List.setIfInBounds_toArray, List.set_cons_zero, List.set_cons_succ, List.getElem_toArray, List.getElem_cons_succ, List.getElem_cons_zero]
          refine wpAnyH_take (i := 13) (v := .pointer (some ⟨g, i * 3, none⟩)) rfl (by kernel_rfl) (by kernel_rfl) (by kernel_rfl) (fun _ _ _ h => h) (Or.inl ⟨by kernel_rfl, ?_⟩) hHeld ?_
          · intro w' hSw; go_simp
          try simp only [Act.put, List.setIfInBounds_toArray, List.set_cons_zero, List.set_cons_succ, List.getElem_toArray, List.getElem_cons_succ, List.getElem_cons_zero]
          refine wpAnyH_take (i := 14) (v := .pointer (some ⟨g, i * 3 + 1, none⟩)) rfl (by kernel_rfl) (by kernel_rfl) (by kernel_rfl) (fun _ _ _ h => h) (Or.inl ⟨by kernel_rfl, ?_⟩) hHeld ?_
          · intro w' hSw; go_simp
          try simp only [Act.put, List.setIfInBounds_toArray, List.set_cons_zero, List.set_cons_succ, List.getElem_toArray, List.getElem_cons_succ, List.getElem_cons_zero]
          refine wpAnyH_take (i := 15) (v := .int .i64 (Y1)) rfl (by kernel_rfl) (by kernel_rfl) (by kernel_rfl) (fun _ _ _ h => h) (Or.inl ⟨by kernel_rfl, ?_⟩) hHeld ?_
          · intro w' hSw; have z0 := (Below.cell (p := ⟨g, i * 3 + 1, none⟩) hSw hg).trans c1; go_simp
          try simp only [Act.put, List.setIfInBounds_toArray, List.set_cons_zero, List.set_cons_succ, List.getElem_toArray, List.getElem_cons_succ, List.getElem_cons_zero]
          refine wpAnyH_take (i := 16) (v := .slice ((some ⟨g, 0, none⟩)) n cp) rfl (by kernel_rfl) (by kernel_rfl) (by kernel_rfl) (fun _ _ _ h => h) (Or.inl ⟨by kernel_rfl, ?_⟩) hHeld ?_
          · intro w' hSw; go_simp
          try simp only [Act.put, List.setIfInBounds_toArray, List.set_cons_zero, List.set_cons_succ, List.getElem_toArray, List.getElem_cons_succ, List.getElem_cons_zero]
          refine wpAnyH_take (i := 17) (v := .int .i64 ((k : Int))) rfl (by kernel_rfl) (by kernel_rfl) (by kernel_rfl) (fun _ _ _ h => h) (Or.inl ⟨by kernel_rfl, ?_⟩) hHeld ?_
          · intro w' hSw; go_simp
          try simp only [Act.put, List.setIfInBounds_toArray, List.set_cons_zero, List.set_cons_succ, List.getElem_toArray, List.getElem_cons_succ, List.getElem_cons_zero]
          refine wpAnyH_take (i := 18) (v := .pointer (some ⟨g, k * 3, none⟩)) rfl (by kernel_rfl) (by kernel_rfl) (by kernel_rfl) (fun _ _ _ h => h) (Or.inl ⟨by kernel_rfl, ?_⟩) hHeld ?_
          · intro w' hSw; go_simp
          try simp only [Act.put, List.setIfInBounds_toArray, List.set_cons_zero, List.set_cons_succ, List.getElem_toArray, List.getElem_cons_succ, List.getElem_cons_zero]
          refine wpAnyH_take (i := 19) (v := .pointer (some ⟨g, k * 3 + 1, none⟩)) rfl (by kernel_rfl) (by kernel_rfl) (by kernel_rfl) (fun _ _ _ h => h) (Or.inl ⟨by kernel_rfl, ?_⟩) hHeld ?_
          · intro w' hSw; go_simp
          try simp only [Act.put, List.setIfInBounds_toArray, List.set_cons_zero, List.set_cons_succ, List.getElem_toArray, List.getElem_cons_succ, List.getElem_cons_zero]
          refine wpAnyH_take (i := 20) (v := .int .i64 (Y2)) rfl (by kernel_rfl) (by kernel_rfl) (by kernel_rfl) (fun _ _ _ h => h) (Or.inl ⟨by kernel_rfl, ?_⟩) hHeld ?_
          · intro w' hSw; have z0 := (Below.cell (p := ⟨g, k * 3 + 1, none⟩) hSw hg).trans d1; go_simp
          try simp only [Act.put, List.setIfInBounds_toArray, List.set_cons_zero, List.set_cons_succ, List.getElem_toArray, List.getElem_cons_succ, List.getElem_cons_zero]
          refine wpAnyH_take (i := 21) (v := .int .i64 (y)) rfl (by kernel_rfl) (by kernel_rfl) (by kernel_rfl) (fun _ _ _ h => h) (Or.inl ⟨by kernel_rfl, ?_⟩) hHeld ?_
          · intro w' hSw; go_simp
          try simp only [Act.put, List.setIfInBounds_toArray, List.set_cons_zero, List.set_cons_succ, List.getElem_toArray, List.getElem_cons_succ, List.getElem_cons_zero]
          refine wpAnyH_take (i := 22) (v := .agg #[.int .i64 (x), .int .i64 (y), .int .i64 (0)]) rfl (by kernel_rfl) (by kernel_rfl) (by kernel_rfl) (fun _ _ _ h => h) (Or.inl ⟨by kernel_rfl, ?_⟩) hHeld ?_
          · intro w' hSw; go_simp
          try simp only [Act.put, List.setIfInBounds_toArray, List.set_cons_zero, List.set_cons_succ, List.getElem_toArray, List.getElem_cons_succ, List.getElem_cons_zero]
          refine wpAnyH_ready (rs := [23]) (by kernel_rfl) (by simp) ?_
          refine AllReadyH.cons rfl (fun KK hK' => ?_) AllReadyH.nil
          go_simp
          obtain ⟨u1, hU, a9, bb, -⟩ := boxed u0 32 #[.int .i64 0, .int .i64 0, .int .i64 0]
          rw [hU]
          clear hU
          replace bu : Kb u0 u1 := bu.trans (bb.mono bu.size)
          obtain ⟨p9, hp9⟩ : ∃ p, u0.heap.size = p := ⟨_, rfl⟩
          rw [hp9] at a9 ⊢
          clear bb
          clear hHeld
          refine hK'.out _ _ (bu) (fun hHeld => ?_)
          clear hK' KK
          try simp only [List.setIfInBounds_toArray, List.set_cons_zero, List.set_cons_succ]
          refine wpAnyH_ready (rs := [24]) (by kernel_rfl) (by simp) ?_
          refine AllReadyH.cons rfl (fun KK hK' => ?_) AllReadyH.nil
          obtain ⟨y0, y1, y2, k0, k1, k2⟩ := a9.open3
          go_simp
          have hpu : u0.heap.size ≤ p9 := by omega
          obtain ⟨u2, hU, a10, b10⟩ : ∃ U, ((u1.setCell ⟨p9, 0, none⟩ (.int .i64 x)).setCell ⟨p9, 1, none⟩ (.int .i64 y)).setCell ⟨p9, 2, none⟩ (.int .i64 0) = U ∧ At 32 U p9 #[.int .i64 x, .int .i64 y, .int .i64 0] ∧ Kb u0 U := ⟨_, rfl, by simpa using ((a9.set 0 (.int .i64 x)).set 1 (.int .i64 y)).set 2 (.int .i64 0), ((bu.setCell (p := ⟨p9, 0, none⟩) hpu _).setCell (p := ⟨p9, 1, none⟩) hpu _).setCell (p := ⟨p9, 2, none⟩) hpu _⟩
          rw [hU]
          clear hU a9 bu y0 y1 y2 k0 k1 k2
          have a9 := a10
          have bu := b10
          clear a10 b10
          clear hHeld
          refine hK'.out _ _ (bu) (fun hHeld => ?_)
          clear hK' KK
          try simp only [List.setIfInBounds_toArray, List.set_cons_zero, List.set_cons_succ]
          refine wpAnyH_done (by kernel_rfl) ?_ _
          clear hHeld
          replace R := R.below bu
          clear bu
          obtain ⟨z0, z1, z2, -⟩ := a9.open3
          have hm' : (m : Int) ≤ 1000 := by omega
          have HM0 : Hid (L.length = m) := hm
          clear hm w1 w2' hx hy c0 c1 d0 d1
          by_cases hx0 : x = 0
          · subst hx0
            by_cases hy0 : y = 0
            · subst hy0
              have HT0 : Hid (pd (Thr L 0 0 0) = true) := pd_yes (.inl rfl)
              go_wp2
              go_loopw [10, 11] (fun s t wr => ∃ j : Nat, j ≤ m ∧ t = .int .i64 (j : Int) ∧ s = .bool (pd (Thr L 0 0 j)) ∧ At 32 wr p9 #[.int .i64 0, .int .i64 0, .int .i64 0] ∧ Gat w2 wr w2.heap.size 32 3 u6 m (fl3 L)) (fun _ t _ => m - (intOf t).toNat)
              case atStart => exact ⟨0, Nat.zero_le _, rfl, (by rw [HT0.out]), a9, R⟩
              case round =>
                clear R a9 z0 z1 z2
                obtain ⟨j, hj, rfl, rfl, a9, R⟩ := hrel
                by_cases hT : Thr L 0 0 j
                · rw [pd_yes hT]
                  have HW : Hid (WS n f i (k + 1) L) := SK.out (by first | exact hT.end (by have := HM0.out; omega) | exact .inl trivial)
                  clear hT SK SA
                  by_cases hjt : j < m
                  · have hjt' : (j : Int) < (m : Int) := by omega
                    obtain ⟨-, gg, cc, rfl, -, -⟩ := R.wps
                    go_wp2
                    exact ⟨⟨k + 1, m, L, by omega, HM0.out, by omega, by go_num, HW.out, R⟩, by simp [intOf]; omega⟩
                  · have hjt' : ¬ (j : Int) < (m : Int) := by omega
                    obtain ⟨-, gg, cc, rfl, -, -⟩ := R.wps
                    go_wp2
                    exact ⟨⟨k + 1, m, L, by omega, HM0.out, by omega, by go_num, HW.out, R⟩, by simp [intOf]; omega⟩
                · rw [pd_no hT]
                  obtain ⟨-, gg, cc, rfl, -, hWp⟩ := R.wps
                  by_cases hjt : j < m
                  · have hjt' : (j : Int) < (m : Int) := by omega
                    have hj0 : (0 : Int) ≤ (j : Int) := by omega
                    obtain ⟨c0, c1, c2⟩ := hWp.2 j (by have := HM0.out; omega)
                    obtain ⟨z0, z1, z2, -⟩ := a9.open3
                    obtain ⟨P, hP⟩ : ∃ P, L.getD j (0, 0) = P := ⟨_, rfl⟩
                    rw [hP] at c0 c1
                    obtain ⟨px, py⟩ := P
                    simp only at c0 c1
                    have R' := R.below (Below.refl wr.heap.size wr).drew
                    have a9' := a9.below (Below.refl wr.heap.size wr).drew
                    by_cases f1 : px = 0
                    · by_cases f2 : py = 0
                      · have HB : Hid (pd (Thr L 0 0 (j + 1)) = true) := pd_yes (Thr.yes (by rw [hP, f1, f2]))
                        subst f1 f2
                        clear hP hT SK SA R a9 hWp
                        go_upto_region 17 with (fail)
                        go_region
                        go_wp2
                        exact ⟨⟨j + 1, by omega, by go_num, by rw [HB.out], a9', R'⟩, by simp [intOf]; omega⟩
                      · have HB : Hid (pd (Thr L 0 0 (j + 1)) = false) := pd_no (Thr.no hT (by rw [hP]; intro e; injection e with e1 e2; exact f2 e2))
                        clear hP hT SK SA R a9 hWp
                        rw [f1] at c0
                        clear f1
                        go_upto_region 17 with (fail)
                        go_region
                        go_wp2
                        exact ⟨⟨j + 1, by omega, by go_num, by rw [HB.out], a9', R'⟩, by simp [intOf]; omega⟩
                    · have HB : Hid (pd (Thr L 0 0 (j + 1)) = false) := pd_no (Thr.no hT (by rw [hP]; intro e; injection e with e1 e2; exact f1 e1))
                      clear hP hT SK SA R a9 hWp
                      go_upto_region 17 with (fail)
                      go_region
                      go_wp2
                      exact ⟨⟨j + 1, by omega, by go_num, by rw [HB.out], a9', R'⟩, by simp [intOf]; omega⟩
                  · have hjt' : ¬ (j : Int) < (m : Int) := by omega
                    have HW : Hid (WS n f i (k + 1) (L ++ [(0, 0)])) := SA.out fun e => hT (.inl e)
                    clear hT SK SA hWp
                    obtain ⟨z0, z1, z2, -⟩ := a9.open3
                    obtain ⟨V9, hV9, A9, b10, -⟩ := boxed wr 32 #[.int .i64 0, .int .i64 0, .int .i64 0]
                    have R9 := R.below b10
                    obtain ⟨g9, hg9⟩ : ∃ g, wr.heap.size = g := ⟨_, rfl⟩
                    rw [hg9] at A9
                    have hb2 : ∀ w, (Instr.buildSlice 24 1 #[(0, .agg #[.int .i64 0, .int .i64 0, .int .i64 0])]).run Try.prog w = .ok (.slice (some ⟨w.heap.size, 0, none⟩) 1 1) (w.alloc (.cells #[.int .i64 0, .int .i64 0, .int .i64 0] 32)) := fun _ => by kernel_rfl
                    clear b10 R
                    go_wp2_with (at_builtin; refine wpList_append_own _ rfl _ _ _ rfl w2.heap.size 32 i0 _ 3 24 Try.underlying24 hi0 hz0 hz1 hz2 rfl (by omega) (.slice (some ⟨gg, 0, none⟩) m cc) m (lCells (fl3 L)) rfl R9.own ⟨g9, 0, none⟩ 1 1 (lCells [0, 0, 0]) rfl rfl (news3w A9) (lCells_one _) (by unfold maxLen; omega) (by omega) R9.o3 ?_; intro v2 w6 hown2 hgrow2 hne2)
                    have R3 := R9.grow hown2 hgrow2 (fun h => R9.nn (hne2.1 h).1)
                    refine ⟨⟨k + 1, m + 1, L ++ [(0, 0)], by omega, by rw [List.length_append, HM0.out]; rfl, by omega, by go_num, HW.out, ?_⟩, by simp [intOf]; omega⟩
                    rw [fl3_append]
                    exact R3
            · have HT0 : Hid (pd (Thr L 0 y 0) = false) := pd_no (by rintro (e | ⟨t, ht, -⟩); injection e with e1 e2; exact hy0 e2; omega)
              go_wp2
              go_loopw [10, 11] (fun s t wr => ∃ j : Nat, j ≤ m ∧ t = .int .i64 (j : Int) ∧ s = .bool (pd (Thr L 0 y j)) ∧ At 32 wr p9 #[.int .i64 0, .int .i64 y, .int .i64 0] ∧ Gat w2 wr w2.heap.size 32 3 u6 m (fl3 L)) (fun _ t _ => m - (intOf t).toNat)
              case atStart => exact ⟨0, Nat.zero_le _, rfl, (by rw [HT0.out]; simp [hy0]), a9, R⟩
              case round =>
                clear R a9 z0 z1 z2
                obtain ⟨j, hj, rfl, rfl, a9, R⟩ := hrel
                by_cases hT : Thr L 0 y j
                · rw [pd_yes hT]
                  have HW : Hid (WS n f i (k + 1) L) := SK.out (by first | exact hT.end (by have := HM0.out; omega) | exact .inl trivial)
                  clear hT SK SA
                  by_cases hjt : j < m
                  · have hjt' : (j : Int) < (m : Int) := by omega
                    obtain ⟨-, gg, cc, rfl, -, -⟩ := R.wps
                    go_wp2
                    exact ⟨⟨k + 1, m, L, by omega, HM0.out, by omega, by go_num, HW.out, R⟩, by simp [intOf]; omega⟩
                  · have hjt' : ¬ (j : Int) < (m : Int) := by omega
                    obtain ⟨-, gg, cc, rfl, -, -⟩ := R.wps
                    go_wp2
                    exact ⟨⟨k + 1, m, L, by omega, HM0.out, by omega, by go_num, HW.out, R⟩, by simp [intOf]; omega⟩
                · rw [pd_no hT]
                  obtain ⟨-, gg, cc, rfl, -, hWp⟩ := R.wps
                  by_cases hjt : j < m
                  · have hjt' : (j : Int) < (m : Int) := by omega
                    have hj0 : (0 : Int) ≤ (j : Int) := by omega
                    obtain ⟨c0, c1, c2⟩ := hWp.2 j (by have := HM0.out; omega)
                    obtain ⟨z0, z1, z2, -⟩ := a9.open3
                    obtain ⟨P, hP⟩ : ∃ P, L.getD j (0, 0) = P := ⟨_, rfl⟩
                    rw [hP] at c0 c1
                    obtain ⟨px, py⟩ := P
                    simp only at c0 c1
                    have R' := R.below (Below.refl wr.heap.size wr).drew
                    have a9' := a9.below (Below.refl wr.heap.size wr).drew
                    by_cases f1 : px = 0
                    · by_cases f2 : py = y
                      · have HB : Hid (pd (Thr L 0 y (j + 1)) = true) := pd_yes (Thr.yes (by rw [hP, f1, f2]))
                        subst f1 f2
                        clear hP hT SK SA R a9 hWp
                        go_upto_region 17 with (fail)
                        go_region
                        go_wp2
                        exact ⟨⟨j + 1, by omega, by go_num, by rw [HB.out], a9', R'⟩, by simp [intOf]; omega⟩
                      · have HB : Hid (pd (Thr L 0 y (j + 1)) = false) := pd_no (Thr.no hT (by rw [hP]; intro e; injection e with e1 e2; exact f2 e2))
                        clear hP hT SK SA R a9 hWp
                        rw [f1] at c0
                        clear f1
                        go_upto_region 17 with (fail)
                        go_region
                        go_wp2
                        exact ⟨⟨j + 1, by omega, by go_num, by rw [HB.out], a9', R'⟩, by simp [intOf]; omega⟩
                    · have HB : Hid (pd (Thr L 0 y (j + 1)) = false) := pd_no (Thr.no hT (by rw [hP]; intro e; injection e with e1 e2; exact f1 e1))
                      clear hP hT SK SA R a9 hWp
                      go_upto_region 17 with (fail)
                      go_region
                      go_wp2
                      exact ⟨⟨j + 1, by omega, by go_num, by rw [HB.out], a9', R'⟩, by simp [intOf]; omega⟩
                  · have hjt' : ¬ (j : Int) < (m : Int) := by omega
                    have HW : Hid (WS n f i (k + 1) (L ++ [(0, y)])) := SA.out fun e => hT (.inl e)
                    clear hT SK SA hWp
                    obtain ⟨z0, z1, z2, -⟩ := a9.open3
                    obtain ⟨V9, hV9, A9, b10, -⟩ := boxed wr 32 #[.int .i64 0, .int .i64 y, .int .i64 0]
                    have R9 := R.below b10
                    obtain ⟨g9, hg9⟩ : ∃ g, wr.heap.size = g := ⟨_, rfl⟩
                    rw [hg9] at A9
                    have hb2 : ∀ w, (Instr.buildSlice 24 1 #[(0, .agg #[.int .i64 0, .int .i64 y, .int .i64 0])]).run Try.prog w = .ok (.slice (some ⟨w.heap.size, 0, none⟩) 1 1) (w.alloc (.cells #[.int .i64 0, .int .i64 y, .int .i64 0] 32)) := fun _ => by kernel_rfl
                    clear b10 R
                    go_wp2_with (at_builtin; refine wpList_append_own _ rfl _ _ _ rfl w2.heap.size 32 i0 _ 3 24 Try.underlying24 hi0 hz0 hz1 hz2 rfl (by omega) (.slice (some ⟨gg, 0, none⟩) m cc) m (lCells (fl3 L)) rfl R9.own ⟨g9, 0, none⟩ 1 1 (lCells [0, y, 0]) rfl rfl (news3w A9) (lCells_one _) (by unfold maxLen; omega) (by omega) R9.o3 ?_; intro v2 w6 hown2 hgrow2 hne2)
                    have R3 := R9.grow hown2 hgrow2 (fun h => R9.nn (hne2.1 h).1)
                    refine ⟨⟨k + 1, m + 1, L ++ [(0, y)], by omega, by rw [List.length_append, HM0.out]; rfl, by omega, by go_num, HW.out, ?_⟩, by simp [intOf]; omega⟩
                    rw [fl3_append]
                    exact R3
          · have HT0 : Hid (pd (Thr L x y 0) = false) := pd_no (by rintro (e | ⟨t, ht, -⟩); injection e with e1 e2; exact hx0 e1; omega)
            go_wp2
            go_loopw [10, 11] (fun s t wr => ∃ j : Nat, j ≤ m ∧ t = .int .i64 (j : Int) ∧ s = .bool (pd (Thr L x y j)) ∧ At 32 wr p9 #[.int .i64 x, .int .i64 y, .int .i64 0] ∧ Gat w2 wr w2.heap.size 32 3 u6 m (fl3 L)) (fun _ t _ => m - (intOf t).toNat)
            case atStart => exact ⟨0, Nat.zero_le _, rfl, (by rw [HT0.out]), a9, R⟩
            case round =>
              clear R a9 z0 z1 z2
              obtain ⟨j, hj, rfl, rfl, a9, R⟩ := hrel
              by_cases hT : Thr L x y j
              · rw [pd_yes hT]
                have HW : Hid (WS n f i (k + 1) L) := SK.out (by first | exact hT.end (by have := HM0.out; omega) | exact .inl trivial)
                clear hT SK SA
                by_cases hjt : j < m
                · have hjt' : (j : Int) < (m : Int) := by omega
                  obtain ⟨-, gg, cc, rfl, -, -⟩ := R.wps
                  go_wp2
                  exact ⟨⟨k + 1, m, L, by omega, HM0.out, by omega, by go_num, HW.out, R⟩, by simp [intOf]; omega⟩
                · have hjt' : ¬ (j : Int) < (m : Int) := by omega
                  obtain ⟨-, gg, cc, rfl, -, -⟩ := R.wps
                  go_wp2
                  exact ⟨⟨k + 1, m, L, by omega, HM0.out, by omega, by go_num, HW.out, R⟩, by simp [intOf]; omega⟩
              · rw [pd_no hT]
                obtain ⟨-, gg, cc, rfl, -, hWp⟩ := R.wps
                by_cases hjt : j < m
                · have hjt' : (j : Int) < (m : Int) := by omega
                  have hj0 : (0 : Int) ≤ (j : Int) := by omega
                  obtain ⟨c0, c1, c2⟩ := hWp.2 j (by have := HM0.out; omega)
                  obtain ⟨z0, z1, z2, -⟩ := a9.open3
                  obtain ⟨P, hP⟩ : ∃ P, L.getD j (0, 0) = P := ⟨_, rfl⟩
                  rw [hP] at c0 c1
                  obtain ⟨px, py⟩ := P
                  simp only at c0 c1
                  have R' := R.below (Below.refl wr.heap.size wr).drew
                  have a9' := a9.below (Below.refl wr.heap.size wr).drew
                  by_cases f1 : px = x
                  · by_cases f2 : py = y
                    · have HB : Hid (pd (Thr L x y (j + 1)) = true) := pd_yes (Thr.yes (by rw [hP, f1, f2]))
                      subst f1 f2
                      clear hP hT SK SA R a9 hWp
                      go_upto_region 17 with (fail)
                      go_region
                      go_wp2
                      exact ⟨⟨j + 1, by omega, by go_num, by rw [HB.out], a9', R'⟩, by simp [intOf]; omega⟩
                    · have HB : Hid (pd (Thr L x y (j + 1)) = false) := pd_no (Thr.no hT (by rw [hP]; intro e; injection e with e1 e2; exact f2 e2))
                      clear hP hT SK SA R a9 hWp
                      rw [f1] at c0
                      clear f1
                      go_upto_region 17 with (fail)
                      go_region
                      go_wp2
                      exact ⟨⟨j + 1, by omega, by go_num, by rw [HB.out], a9', R'⟩, by simp [intOf]; omega⟩
                  · have HB : Hid (pd (Thr L x y (j + 1)) = false) := pd_no (Thr.no hT (by rw [hP]; intro e; injection e with e1 e2; exact f1 e1))
                    clear hP hT SK SA R a9 hWp
                    go_upto_region 17 with (fail)
                    go_region
                    go_wp2
                    exact ⟨⟨j + 1, by omega, by go_num, by rw [HB.out], a9', R'⟩, by simp [intOf]; omega⟩
                · have hjt' : ¬ (j : Int) < (m : Int) := by omega
                  have HW : Hid (WS n f i (k + 1) (L ++ [(x, y)])) := SA.out fun e => hT (.inl e)
                  clear hT SK SA hWp
                  obtain ⟨z0, z1, z2, -⟩ := a9.open3
                  obtain ⟨V9, hV9, A9, b10, -⟩ := boxed wr 32 #[.int .i64 x, .int .i64 y, .int .i64 0]
                  have R9 := R.below b10
                  obtain ⟨g9, hg9⟩ : ∃ g, wr.heap.size = g := ⟨_, rfl⟩
                  rw [hg9] at A9
                  have hb2 : ∀ w, (Instr.buildSlice 24 1 #[(0, .agg #[.int .i64 x, .int .i64 y, .int .i64 0])]).run Try.prog w = .ok (.slice (some ⟨w.heap.size, 0, none⟩) 1 1) (w.alloc (.cells #[.int .i64 x, .int .i64 y, .int .i64 0] 32)) := fun _ => by kernel_rfl
                  clear b10 R
                  go_wp2_with (at_builtin; refine wpList_append_own _ rfl _ _ _ rfl w2.heap.size 32 i0 _ 3 24 Try.underlying24 hi0 hz0 hz1 hz2 rfl (by omega) (.slice (some ⟨gg, 0, none⟩) m cc) m (lCells (fl3 L)) rfl R9.own ⟨g9, 0, none⟩ 1 1 (lCells [x, y, 0]) rfl rfl (news3w A9) (lCells_one _) (by unfold maxLen; omega) (by omega) R9.o3 ?_; intro v2 w6 hown2 hgrow2 hne2)
                  have R3 := R9.grow hown2 hgrow2 (fun h => R9.nn (hne2.1 h).1)
                  refine ⟨⟨k + 1, m + 1, L ++ [(x, y)], by omega, by rw [List.length_append, HM0.out]; rfl, by omega, by go_num, HW.out, ?_⟩, by simp [intOf]; omega⟩
                  rw [fl3_append]
                  exact R3
        · have hkt' : ¬ (k : Int) < (n : Int) := by omega
          obtain rfl : k = n := by omega
          have HM0 : Hid (L.length = m) := hm
          have HW : Hid (WS k f (i + 1) 0 L) := hWS.row
          clear hm hWS
          go_wp2
          exact ⟨⟨i + 1, m, L, by omega, HM0.out, by omega, by go_num, HW.out, R⟩, by simp [intOf]; omega⟩
    · have hlt' : ¬ (i : Int) < (n : Int) := by omega
      obtain rfl : i = n := by omega
      have hAll : ∀ p, p ∈ L ↔ LP i f p := fun p => hWS.all p
      have hWi : ∀ t, t < m → Wi (L.getD t (0, 0)).1 ∧ Wi (L.getD t (0, 0)).2 := fun t ht => ((hAll _).1 (mem_getD.2 ⟨t, by omega, rfl⟩)).wi hs
      have hpos : 0 < m → 0 < i := fun hm0 => by
        obtain ⟨-, a, ha, -⟩ := (hAll _).1 (mem_getD.2 ⟨0, by omega, rfl⟩)
        omega
      have HC : ∀ x, InC i f L m 0 x ↔ Cs i f x := fun x => by
        constructor
        · rintro ⟨s, t, hst, e1, e2, e3, e4⟩
          exact ⟨(hAll _).1 (mem_getD.2 ⟨s, by omega, e1⟩), (hAll _).1 (mem_getD.2 ⟨t, by omega, e2⟩), e3, e4⟩
        · rintro ⟨h1, h2, h3, h4⟩
          obtain ⟨s, hs', e1⟩ := mem_getD.1 ((hAll _).2 h1)
          obtain ⟨t, ht, e2⟩ := mem_getD.1 ((hAll _).2 h2)
          exact ⟨s, t, by omega, e1, e2, h3, h4⟩
      have HROW := fun a x => inC_row (n := i) (f := f) (D := L) (i := a) x
      simp only [hm] at HROW
      obtain ⟨-, gg, cc, rfl, hgg, hWp⟩ := R.wps
      have T0 := (h.below bW).below R.b
      have A2 := A01.below R.b
      have A4 := A1.below R.b
      have bWr := bW.trans (R.b.mono bW.size)
      have hp4s : p4 < w2.heap.size := A1.lt
      have hgp4 : g ≠ p4 := by have := h.1; omega
      have hggp4 : gg ≠ p4 := by omega
      have HML : Hid (L.length = m) := hm
      obtain ⟨W0, hW0⟩ : ∃ W, wr = W := ⟨_, rfl⟩
      rw [hW0] at T0 A2 A4 bWr hWp
      have hm1000 : m ≤ 256 := by omega
      have hm' : (m : Int) ≤ 256 := by omega
      have hWi0 : Wi 0 := by constructor <;> omega
      have B0 : Bst (InC i f L 0 0) ⟨0, 0, 0, 0, 0⟩ := .inl ⟨(fun x ⟨s, t, hst, _⟩ => by omega), rfl⟩
      have hp4W := A4.lt
      clear R hAll hWS hm
      rw [hW0]
      go_wp2
      clear hW0
      go_loopw [5, 12] (fun s t wr => ∃ (a : Nat) (r : Cd), a ≤ m ∧ s = .int .i64 r.m ∧ t = .int .i64 (a : Int) ∧ Bst (InC i f L a 0) r ∧ (Wi r.a ∧ Wi r.b ∧ Wi r.c ∧ Wi r.d) ∧ At 27 wr p4 #[.int .i64 r.a, .int .i64 r.b, .int .i64 r.c, .int .i64 r.d] ∧ Kept p4 W0 wr) (fun _ t _ => m - (intOf t).toNat)
      case atStart => exact ⟨0, ⟨0, 0, 0, 0, 0⟩, Nat.zero_le _, rfl, rfl, B0, ⟨hWi0, hWi0, hWi0, hWi0⟩, A4, Kept.refl _ _⟩
      case round =>
        clear B0 A4
        obtain ⟨a, r, ha, rfl, rfl, hB, hWr, A4, hK⟩ := hrel
        by_cases hat : a < m
        · have hat' : (a : Int) < (m : Int) := by omega
          go_wp2
          go_loopw [5, 13] (fun s t wr => ∃ (b : Nat) (r : Cd), b ≤ m ∧ s = .int .i64 r.m ∧ t = .int .i64 (b : Int) ∧ Bst (InC i f L a b) r ∧ (Wi r.a ∧ Wi r.b ∧ Wi r.c ∧ Wi r.d) ∧ At 27 wr p4 #[.int .i64 r.a, .int .i64 r.b, .int .i64 r.c, .int .i64 r.d] ∧ Kept p4 W0 wr) (fun _ t _ => m - (intOf t).toNat)
          case atStart => exact ⟨0, r, Nat.zero_le _, rfl, rfl, hB, hWr, A4, hK⟩
          case round =>
            clear hB hWr A4 hK
            obtain ⟨b, r, hb, rfl, rfl, hB, hWr, A4, hK⟩ := hrel
            by_cases hbt : b < m
            · have hbt' : (b : Int) < (m : Int) := by omega
              have ha0 : (0 : Int) ≤ (a : Int) := by omega
              have hb0' : (0 : Int) ≤ (b : Int) := by omega
              have hWk : Wps wr gg L := ⟨Nat.lt_of_lt_of_le hWp.1 hK.size, fun t ht => ⟨(hK.cell hggp4 hWp.1).trans (hWp.2 t ht).1, (hK.cell hggp4 hWp.1).trans (hWp.2 t ht).2.1, (hK.cell hggp4 hWp.1).trans (hWp.2 t ht).2.2⟩⟩
              obtain ⟨c0, c1, -⟩ := hWk.2 a (by have := HML.out; omega)
              obtain ⟨d0, d1, -⟩ := hWk.2 b (by have := HML.out; omega)
              have hw1 := hWi a hat
              have hw2 := hWi b hbt
              obtain ⟨P, hP⟩ : ∃ P, L.getD a (0, 0) = P := ⟨_, rfl⟩
              obtain ⟨Q, hQ⟩ : ∃ Q, L.getD b (0, 0) = Q := ⟨_, rfl⟩
              rw [hP] at c0 c1 hw1
              rw [hQ] at d0 d1 hw2
              obtain ⟨xa, xb⟩ := P
              obtain ⟨xc, xd⟩ := Q
              simp only at c0 c1 d0 d1 hw1 hw2
              have hg : gg < wr.heap.size := hWk.1
              have CY : Hid (BsOk xa xb xc xd → ∀ z, InC i f L a (b + 1) z ↔ (InC i f L a b z ∨ z = ⟨xa, xb, xc, xd, (ixc f xa xb xc xd i : Int)⟩)) := Hid.out fun hbs z => inC_yes hP hQ hbs z
              have CN : Hid (¬ BsOk xa xb xc xd → ∀ z, InC i f L a (b + 1) z ↔ InC i f L a b z) := Hid.out fun hbs z => inC_no hP hQ hbs z
              have hp4r : p4 < wr.heap.size := A4.lt
              clear hWk hP hQ
              go_upto_region 26 with (fail)
              obtain ⟨u0, hu0, bb⟩ : ∃ uu, wr.drew = uu ∧ Below wr.heap.size wr uu := ⟨_, rfl, (Below.refl _ _).drew⟩
              replace A4 := A4.below bb
              replace c0 := (bb.cell (p := ⟨gg, a * 3, none⟩) hg).trans c0
              replace c1 := (bb.cell (p := ⟨gg, a * 3 + 1, none⟩) hg).trans c1
              replace d0 := (bb.cell (p := ⟨gg, b * 3, none⟩) hg).trans d0
              replace d1 := (bb.cell (p := ⟨gg, b * 3 + 1, none⟩) hg).trans d1
              replace hg := Nat.lt_of_lt_of_le hg bb.size
              replace hK := keptC_below hK bb
              clear bb
              refine wp_region_held_drew (S := Kb u0) (by kernel_rfl) (by rw [hu0]; exact Below.refl _ _) (fun hHeld => ?_)
              rw [hu0] at hHeld ⊢
              clear hu0
              have bu : Kb u0 u0 := Below.refl _ _
              change wpAnyH _ _ _ _ _ 23 #[false, false, false, false, false, false, false, false, false, false, false, false, false, false, false, false, false, false, false, false, false, false, false] _ _
              refine wpAnyH_take (i := 0) (v := .slice ((some ⟨gg, 0, none⟩)) m cc) rfl (by kernel_rfl) (by kernel_rfl) (by kernel_rfl) (fun _ _ _ h => h) (Or.inl ⟨by kernel_rfl, ?_⟩) hHeld ?_
              · intro w' hSw; go_simp
              try simp only [Act.put, List.setIfInBounds_toArray, List.set_cons_zero, List.set_cons_succ, List.getElem_toArray, List.getElem_cons_zero]
              refine wpAnyH_take (i := 1) (v := .int .i64 ((a : Int))) rfl (by kernel_rfl) (by kernel_rfl) (by kernel_rfl) (fun _ _ _ h => h) (Or.inl ⟨by kernel_rfl, ?_⟩) hHeld ?_
              · intro w' hSw; go_simp
              try simp only [Act.put, List.setIfInBounds_toArray, List.set_cons_zero, List.set_cons_succ, List.getElem_toArray, List.getElem_cons_succ, List.getElem_cons_zero]
              refine wpAnyH_take (i := 2) (v := .pointer (some ⟨gg, a * 3, none⟩)) rfl (by kernel_rfl) (by kernel_rfl) (by kernel_rfl) (fun _ _ _ h => h) (Or.inl ⟨by kernel_rfl, ?_⟩) hHeld ?_
              · intro w' hSw; go_simp
              try simp only [Act.put, List.setIfInBounds_toArray, List.set_cons_zero, List.set_cons_succ, List.getElem_toArray, List.getElem_cons_succ, List.getElem_cons_zero]
              refine wpAnyH_take (i := 3) (v := .pointer (some ⟨gg, a * 3, none⟩)) rfl (by kernel_rfl) (by kernel_rfl) (by kernel_rfl) (fun _ _ _ h => h) (Or.inl ⟨by kernel_rfl, ?_⟩) hHeld ?_
              · intro w' hSw; go_simp
              try simp only [Act.put, List.setIfInBounds_toArray, List.set_cons_zero, List.set_cons_succ, List.getElem_toArray, List.getElem_cons_succ, List.getElem_cons_zero]
              refine wpAnyH_take (i := 4) (v := .int .i64 (xa)) rfl (by kernel_rfl) (by kernel_rfl) (by kernel_rfl) (fun _ _ _ h => h) (Or.inl ⟨by kernel_rfl, ?_⟩) hHeld ?_
              · intro w' hSw; have z0 := (Below.cell (p := ⟨gg, a * 3, none⟩) hSw hg).trans c0; go_simp
              try simp only [Act.put, List.setIfInBounds_toArray, List.set_cons_zero, List.set_cons_succ, List.getElem_toArray, List.getElem_cons_succ, List.getElem_cons_zero]
              refine wpAnyH_take (i := 5) (v := .slice ((some ⟨gg, 0, none⟩)) m cc) rfl (by kernel_rfl) (by kernel_rfl) (by kernel_rfl) (fun _ _ _ h => h) (Or.inl ⟨by kernel_rfl, ?_⟩) hHeld ?_
              · intro w' hSw; go_simp
              try simp only [Act.put, List.setIfInBounds_toArray, List.set_cons_zero, List.set_cons_succ, List.getElem_toArray, List.getElem_cons_succ, List.getElem_cons_zero]
              refine wpAnyH_take (i := 6) (v := .int .i64 ((a : Int))) rfl (by kernel_rfl) (by kernel_rfl) (by kernel_rfl) (fun _ _ _ h => h) (Or.inl ⟨by kernel_rfl, ?_⟩) hHeld ?_
              · intro w' hSw; go_simp
              try simp only [Act.put, List.setIfInBounds_toArray, List.set_cons_zero, List.set_cons_succ, List.getElem_toArray, List.getElem_cons_succ, List.getElem_cons_zero]
              refine wpAnyH_take (i := 7) (v := .pointer (some ⟨gg, a * 3, none⟩)) rfl (by kernel_rfl) (by kernel_rfl) (by kernel_rfl) (fun _ _ _ h => h) (Or.inl ⟨by kernel_rfl, ?_⟩) hHeld ?_
              · intro w' hSw; go_simp
              try simp only [Act.put, List.setIfInBounds_toArray, List.set_cons_zero, List.set_cons_succ, List.getElem_toArray, List.getElem_cons_succ, List.getElem_cons_zero]
              refine wpAnyH_take (i := 8) (v := .pointer (some ⟨gg, a * 3 + 1, none⟩)) rfl (by kernel_rfl) (by kernel_rfl) (by kernel_rfl) (fun _ _ _ h => h) (Or.inl ⟨by kernel_rfl, ?_⟩) hHeld ?_
              · intro w' hSw; go_simp
              try simp only [Act.put, List.setIfInBounds_toArray, List.set_cons_zero, List.set_cons_succ, List.getElem_toArray, List.getElem_cons_succ, List.getElem_cons_zero]
              refine wpAnyH_take (i := 9) (v := .int .i64 (xb)) rfl (by kernel_rfl) (by kernel_rfl) (by kernel_rfl) (fun _ _ _ h => h) (Or.inl ⟨by kernel_rfl, ?_⟩) hHeld ?_
              · intro w' hSw; have z0 := (Below.cell (p := ⟨gg, a * 3 + 1, none⟩) hSw hg).trans c1; go_simp
              try simp only [Act.put, List.setIfInBounds_toArray, List.set_cons_zero, List.set_cons_succ, List.getElem_toArray, List.getElem_cons_succ, List.getElem_cons_zero]
              refine wpAnyH_take (i := 10) (v := .slice ((some ⟨gg, 0, none⟩)) m cc) rfl (by kernel_rfl) (by kernel_rfl) (by kernel_rfl) (fun _ _ _ h => h) (Or.inl ⟨by kernel_rfl, ?_⟩) hHeld ?_
              · intro w' hSw; go_simp
              try simp only [Act.put, List.setIfInBounds_toArray, List.set_cons_zero, List.set_cons_succ, List.getElem_toArray, List.getElem_cons_succ, List.getElem_cons_zero]
              refine wpAnyH_take (i := 11) (v := .int .i64 ((b : Int))) rfl (by kernel_rfl) (by kernel_rfl) (by kernel_rfl) (fun _ _ _ h => h) (Or.inl ⟨by kernel_rfl, ?_⟩) hHeld ?_
              · intro w' hSw; go_simp
              try simp only [Act.put, List.setIfInBounds_toArray, List.set_cons_zero, List.set_cons_succ, List.getElem_toArray, List.getElem_cons_succ, List.getElem_cons_zero]
              refine wpAnyH_take (i := 12) (v := .pointer (some ⟨gg, b * 3, none⟩)) rfl (by kernel_rfl) (by kernel_rfl) (by kernel_rfl) (fun _ _ _ h => h) (Or.inl ⟨by kernel_rfl, ?_⟩) hHeld ?_
              · intro w' hSw; go_simp
              try simp only [Act.put, List.setIfInBounds_toArray, List.set_cons_zero, List.set_cons_succ, List.getElem_toArray, List.getElem_cons_succ, List.getElem_cons_zero]
              refine wpAnyH_take (i := 13) (v := .pointer (some ⟨gg, b * 3, none⟩)) rfl (by kernel_rfl) (by kernel_rfl) (by kernel_rfl) (fun _ _ _ h => h) (Or.inl ⟨by kernel_rfl, ?_⟩) hHeld ?_
              · intro w' hSw; go_simp
              try simp only [Act.put, List.setIfInBounds_toArray, List.set_cons_zero, List.set_cons_succ, List.getElem_toArray, List.getElem_cons_succ, List.getElem_cons_zero]
              refine wpAnyH_take (i := 14) (v := .int .i64 (xc)) rfl (by kernel_rfl) (by kernel_rfl) (by kernel_rfl) (fun _ _ _ h => h) (Or.inl ⟨by kernel_rfl, ?_⟩) hHeld ?_
              · intro w' hSw; have z0 := (Below.cell (p := ⟨gg, b * 3, none⟩) hSw hg).trans d0; go_simp
              try simp only [Act.put, List.setIfInBounds_toArray, List.set_cons_zero, List.set_cons_succ, List.getElem_toArray, List.getElem_cons_succ, List.getElem_cons_zero]
              refine wpAnyH_take (i := 15) (v := .slice ((some ⟨gg, 0, none⟩)) m cc) rfl (by kernel_rfl) (by kernel_rfl) (by kernel_rfl) (fun _ _ _ h => h) (Or.inl ⟨by kernel_rfl, ?_⟩) hHeld ?_
              · intro w' hSw; go_simp
              try simp only [Act.put, List.setIfInBounds_toArray, List.set_cons_zero, List.set_cons_succ, List.getElem_toArray, List.getElem_cons_succ, List.getElem_cons_zero]
              refine wpAnyH_take (i := 16) (v := .int .i64 ((b : Int))) rfl (by kernel_rfl) (by kernel_rfl) (by kernel_rfl) (fun _ _ _ h => h) (Or.inl ⟨by kernel_rfl, ?_⟩) hHeld ?_
              · intro w' hSw; go_simp
              try simp only [Act.put, List.setIfInBounds_toArray, List.set_cons_zero, List.set_cons_succ, List.getElem_toArray, List.getElem_cons_succ, List.getElem_cons_zero]
              refine wpAnyH_take (i := 17) (v := .pointer (some ⟨gg, b * 3, none⟩)) rfl (by kernel_rfl) (by kernel_rfl) (by kernel_rfl) (fun _ _ _ h => h) (Or.inl ⟨by kernel_rfl, ?_⟩) hHeld ?_
              · intro w' hSw; go_simp
              try simp only [Act.put, List.setIfInBounds_toArray, List.set_cons_zero, List.set_cons_succ, List.getElem_toArray, List.getElem_cons_succ, List.getElem_cons_zero]
              refine wpAnyH_take (i := 18) (v := .pointer (some ⟨gg, b * 3 + 1, none⟩)) rfl (by kernel_rfl) (by kernel_rfl) (by kernel_rfl) (fun _ _ _ h => h) (Or.inl ⟨by kernel_rfl, ?_⟩) hHeld ?_
              · intro w' hSw; go_simp
              try simp only [Act.put, List.setIfInBounds_toArray, List.set_cons_zero, List.set_cons_succ, List.getElem_toArray, List.getElem_cons_succ, List.getElem_cons_zero]
              refine wpAnyH_take (i := 19) (v := .int .i64 (xd)) rfl (by kernel_rfl) (by kernel_rfl) (by kernel_rfl) (fun _ _ _ h => h) (Or.inl ⟨by kernel_rfl, ?_⟩) hHeld ?_
              · intro w' hSw; have z0 := (Below.cell (p := ⟨gg, b * 3 + 1, none⟩) hSw hg).trans d1; go_simp
              try simp only [Act.put, List.setIfInBounds_toArray, List.set_cons_zero, List.set_cons_succ, List.getElem_toArray, List.getElem_cons_succ, List.getElem_cons_zero]
              refine wpAnyH_take (i := 20) (v := .agg #[.int .i64 (xa), .int .i64 (xb), .int .i64 (xc), .int .i64 (xd)]) rfl (by kernel_rfl) (by kernel_rfl) (by kernel_rfl) (fun _ _ _ h => h) (Or.inl ⟨by kernel_rfl, ?_⟩) hHeld ?_
              · intro w' hSw; go_simp
              try simp only [Act.put, List.setIfInBounds_toArray, List.set_cons_zero, List.set_cons_succ, List.getElem_toArray, List.getElem_cons_succ, List.getElem_cons_zero]
              refine wpAnyH_ready (rs := [21]) (by kernel_rfl) (by simp) ?_
              refine AllReadyH.cons rfl (fun KK hK' => ?_) AllReadyH.nil
              go_simp
              obtain ⟨u1, hU, a14, bb, -⟩ := boxed u0 27 #[.int .i64 0, .int .i64 0, .int .i64 0, .int .i64 0]
              rw [hU]
              clear hU
              replace bu : Kb u0 u1 := bu.trans (bb.mono bu.size)
              obtain ⟨p14, hp14⟩ : ∃ p, u0.heap.size = p := ⟨_, rfl⟩
              rw [hp14] at a14 ⊢
              clear bb
              clear hHeld
              refine hK'.out _ _ (bu) (fun hHeld => ?_)
              clear hK' KK
              try simp only [List.setIfInBounds_toArray, List.set_cons_zero, List.set_cons_succ]
              refine wpAnyH_ready (rs := [22]) (by kernel_rfl) (by simp) ?_
              refine AllReadyH.cons rfl (fun KK hK' => ?_) AllReadyH.nil
              obtain ⟨y0, y1, y2, y3, k0, k1, k2, k3⟩ := a14.open4
              go_simp
              have hpu : u0.heap.size ≤ p14 := by omega
              obtain ⟨u2, hU, a15, b15⟩ : ∃ U, ((((u1).setCell ⟨p14, 0, none⟩ (.int .i64 xa)).setCell ⟨p14, 1, none⟩ (.int .i64 xb)).setCell ⟨p14, 2, none⟩ (.int .i64 xc)).setCell ⟨p14, 3, none⟩ (.int .i64 xd) = U ∧ At 27 U p14 #[.int .i64 xa, .int .i64 xb, .int .i64 xc, .int .i64 xd] ∧ Kb u0 U := ⟨_, rfl, put4_atC a14 _ _ _ _, below_put4C bu hpu _ _ _ _⟩
              rw [hU]
              clear hU a14 bu y0 y1 y2 y3 k0 k1 k2 k3
              have a14 := a15
              have bu := b15
              clear a15 b15
              clear hHeld
              refine hK'.out _ _ (bu) (fun hHeld => ?_)
              clear hK' KK
              try simp only [List.setIfInBounds_toArray, List.set_cons_zero, List.set_cons_succ]
              refine wpAnyH_done (by kernel_rfl) ?_ _
              clear hHeld
              replace A4 := A4.below bu
              replace hK := keptC_below hK bu
              clear bu
              obtain ⟨r0, r1, r2, r3, -⟩ := a14.open4
              go_wp2_with fail
              refine (det_any hw1.1 hw1.2 hw2.1 hw2.2 _).mono ?_
              rintro e w9 ⟨rfl, bb⟩
              replace a14 := a14.below bb
              replace A4 := A4.below bb
              replace hK := keptC_below hK bb
              clear bb r0 r1 r2 r3 c0 c1 d0 d1
              obtain ⟨Dt, hDt⟩ : ∃ Dt, xa * xd - xb * xc = Dt := ⟨_, rfl⟩
              rw [hDt]
              by_cases hpos' : 0 < Dt
              case neg =>
                have hle : Dt ≤ 0 := by omega
                have HB : Hid (Bst (InC i f L a (b + 1)) r) := hB.congr (CN.out fun hbs => hpos' (by rw [← hDt]; exact hbs.2.2.2.2))
                clear hB CY CN hDt
                go_wp2
                exact ⟨⟨b + 1, r, by omega, rfl, by go_num, HB.out, hWr, A4, hK⟩, by simp [intOf]; omega⟩
              have hle : ¬ Dt ≤ 0 := by omega
              have hbs : BsOk xa xb xc xd := ⟨hw1.1, hw1.2, hw2.1, hw2.2, by rw [hDt]; exact hpos'⟩
              obtain ⟨r0, r1, r2, r3, -⟩ := a14.open4
              have T9 := TripsC.kept T0 hK hgp4
              have hix := ixT_yes (n := i) hs hbs
              have hixp := ixc_pos (f := f) (a := xa) (b := xb) (c := xc) (d := xd) (hpos (by omega))
              have hixl := ixc_le f xa xb xc xd i
              have CYY := CY.out hbs
              obtain ⟨C, hC⟩ : ∃ C : Nat, ixc f xa xb xc xd i = C := ⟨_, rfl⟩
              rw [hC] at hix hixp hixl CYY
              have HCY : Hid (∀ z, InC i f L a (b + 1) z ↔ (InC i f L a b z ∨ z = ⟨xa, xb, xc, xd, (C : Int)⟩)) := CYY
              clear CY CN CYY hDt hC
              go_wp2_with fail
              refine (specIndexed_any (a := xa) (b := xb) (c := xc) (d := xd) T9 hn).mono ?_
              rintro e w10 ⟨rfl, bb⟩
              rw [hix]
              replace a14 := a14.below bb
              replace A4 := A4.below bb
              replace hK := keptC_below hK bb
              clear bb r0 r1 r2 r3 T9 hix
              have hTake : ∀ U, At 27 U p4 #[.int .i64 r.a, .int .i64 r.b, .int .i64 r.c, .int .i64 r.d] → Kept p4 W0 U → Kept p4 W0 ((((U.setCell ⟨p4, 0, none⟩ (.int .i64 xa)).setCell ⟨p4, 1, none⟩ (.int .i64 xb)).setCell ⟨p4, 2, none⟩ (.int .i64 xc)).setCell ⟨p4, 3, none⟩ (.int .i64 xd)) ∧ At 27 ((((U.setCell ⟨p4, 0, none⟩ (.int .i64 xa)).setCell ⟨p4, 1, none⟩ (.int .i64 xb)).setCell ⟨p4, 2, none⟩ (.int .i64 xc)).setCell ⟨p4, 3, none⟩ (.int .i64 xd)) p4 #[.int .i64 xa, .int .i64 xb, .int .i64 xc, .int .i64 xd] := fun U hA hk => ⟨(((hk.set _).set _).set _).set _, put4_atC hA _ _ _ _⟩
              obtain ⟨ra, rb, rc, rd, rm⟩ := r
              simp only at A4 hWr hTake
              by_cases hr0 : rm = 0
              · have HB : Hid (Bst (InC i f L a (b + 1)) ⟨xa, xb, xc, xd, (C : Int)⟩) := hB.new HCY.out (by
                  rcases hB with ⟨h1, -⟩ | ⟨⟨s, t, -, -, -, -, e4⟩, -⟩
                  · exact .inl h1
                  · have := ixc_pos (f := f) (a := ra) (b := rb) (c := rc) (d := rd) (hpos (by omega))
                    simp only at e4
                    omega)
                subst hr0
                obtain ⟨hK2, A42⟩ := hTake _ A4 hK
                obtain ⟨r0, r1, r2, r3, -⟩ := a14.open4
                obtain ⟨s0, s1, s2, s3, t0, t1, t2, t3⟩ := A4.open4
                obtain ⟨W11, hW11⟩ : ∃ W, (((w10.setCell ⟨p4, 0, none⟩ (.int .i64 xa)).setCell ⟨p4, 1, none⟩ (.int .i64 xb)).setCell ⟨p4, 2, none⟩ (.int .i64 xc)).setCell ⟨p4, 3, none⟩ (.int .i64 xd) = W := ⟨_, rfl⟩
                rw [hW11] at hK2 A42
                clear hB HCY hTake A4 hK a14
                go_wp2
                exact ⟨⟨b + 1, ⟨xa, xb, xc, xd, (C : Int)⟩, by omega, rfl, by go_num, HB.out, ⟨hw1.1, hw1.2, hw2.1, hw2.2⟩, A42, hK2⟩, by simp [intOf]; omega⟩
              · have hr0' : (rm == 0) = false := by simpa using hr0
                obtain ⟨r0, r1, r2, r3, -⟩ := a14.open4
                obtain ⟨s0, s1, s2, s3, -⟩ := A4.open4
                have hrIn : InC i f L a b ⟨ra, rb, rc, rd, rm⟩ := by
                  rcases hB with ⟨-, e⟩ | ⟨h1, -⟩
                  · injection e with _ _ _ _ e5; exact absurd e5 hr0
                  · exact h1
                go_wp2_with fail
                refine (better_any (n := (C : Int)) (m := rm) hw1.1 hw1.2 hw2.1 hw2.2 hWr.1 hWr.2.1 hWr.2.2.1 hWr.2.2.2 _).mono ?_
                rintro e w11 ⟨rfl, bb⟩
                replace a14 := a14.below bb
                replace A4 := A4.below bb
                replace hK := keptC_below hK bb
                clear bb r0 r1 r2 r3 s0 s1 s2 s3
                by_cases hcl : clt ⟨xa, xb, xc, xd, (C : Int)⟩ ⟨ra, rb, rc, rd, rm⟩
                · rw [pd_yes hcl]
                  have HB : Hid (Bst (InC i f L a (b + 1)) ⟨xa, xb, xc, xd, (C : Int)⟩) := hB.new HCY.out (.inr hcl)
                  obtain ⟨hK2, A42⟩ := hTake _ A4 hK
                  obtain ⟨r0, r1, r2, r3, -⟩ := a14.open4
                  obtain ⟨s0, s1, s2, s3, t0, t1, t2, t3⟩ := A4.open4
                  obtain ⟨W11, hW11⟩ : ∃ W, (((w11.setCell ⟨p4, 0, none⟩ (.int .i64 xa)).setCell ⟨p4, 1, none⟩ (.int .i64 xb)).setCell ⟨p4, 2, none⟩ (.int .i64 xc)).setCell ⟨p4, 3, none⟩ (.int .i64 xd) = W := ⟨_, rfl⟩
                  rw [hW11] at hK2 A42
                  clear hB HCY hTake A4 hK a14 hcl hrIn
                  go_wp2
                  exact ⟨⟨b + 1, ⟨xa, xb, xc, xd, (C : Int)⟩, by omega, rfl, by go_num, HB.out, ⟨hw1.1, hw1.2, hw2.1, hw2.2⟩, A42, hK2⟩, by simp [intOf]; omega⟩
                · rw [pd_no hcl]
                  have HB : Hid (Bst (InC i f L a (b + 1)) ⟨ra, rb, rc, rd, rm⟩) := hB.old HCY.out hrIn hcl
                  clear hB HCY hTake a14 hcl hrIn
                  go_wp2
                  exact ⟨⟨b + 1, ⟨ra, rb, rc, rd, rm⟩, by omega, rfl, by go_num, HB.out, hWr, A4, hK⟩, by simp [intOf]; omega⟩
            · have hbt' : ¬ (b : Int) < (m : Int) := by omega
              obtain rfl : b = m := by omega
              have HB : Hid (Bst (InC i f L (a + 1) 0) r) := hB.congr fun z => HROW a z
              clear hB
              go_wp2
              exact ⟨⟨a + 1, r, by omega, rfl, by go_num, HB.out, hWr, A4, hK⟩, by simp [intOf]; omega⟩
        · have hat' : ¬ (a : Int) < (m : Int) := by omega
          obtain rfl : a = m := by omega
          have HF : FbT i f r := .inr ⟨hs, by
            rcases hB with ⟨h1, h2⟩ | ⟨h1, h2⟩
            · exact .inl ⟨fun x hx => h1 x ((HC x).2 hx), h2⟩
            · exact .inr ⟨(HC r).1 h1, fun x hx => h2 x ((HC x).2 hx)⟩⟩
          have A22 : At 27 wr w.heap.size #[.int .i64 0, .int .i64 0, .int .i64 0, .int .i64 0] := (hK.block _ A2.lt (by omega)).trans A2
          have bWe : Below w.heap.size w wr := bWr.trans (hK.below (by omega) bWr.size)
          have A3 := put4_atC A22 (.int .i64 r.a) (.int .i64 r.b) (.int .i64 r.c) (.int .i64 r.d)
          have B3 := below_put4C bWe (Nat.le_refl _) (.int .i64 r.a) (.int .i64 r.b) (.int .i64 r.c) (.int .i64 r.d)
          obtain ⟨c0, c1, c2, c3, k0, k1, k2, k3⟩ := A22.open4
          obtain ⟨e0, e1, e2, e3, -⟩ := A4.open4
          obtain ⟨d0, d1, d2, d3, -⟩ := A3.open4
          have HFH : Hid (FbT i f r) := HF
          clear A22 A4 A3 bWe bWr hK HF hB HC HROW
          go_wp2
          exact bodyPost_ret (v := .tuple #[bV r.a r.b r.c r.d, .int .i64 r.m]) (by simp [results, Try.results9, go_sem, d0, d1, d2, d3]) rfl ⟨r, rfl, HFH.out, B3⟩
end Go.Proofs.Ytjlmiadmobbibaa
