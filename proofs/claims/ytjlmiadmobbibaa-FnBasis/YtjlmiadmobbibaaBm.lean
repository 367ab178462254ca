/-
  Leaps between spots: told, without doubles, counted; by the program, walked.
-/
import Derived.Test.YtjlmiadmobbibaaBc
import Derived.Test.YtjlmiadmobbibaaBh
namespace Go.Proofs.Ytjlmiadmobbibaa
open Go.RowKit

def lCells (l : List Int) : List Value := l.map (Value.int .i64)
theorem lCells_one (l : List Int) : ∀ u ∈ lCells l, u.oneCell' = true := by
  intro u hu
  obtain ⟨x, -, rfl⟩ := List.mem_map.1 hu
  rfl
/-- A list gathered by append: m elements of e numbers each. -/
structure Gat (w0 w : World) (B : Nat) (t : TypeId) (e : Nat) (v : Value) (m : Nat) (l : List Int) : Prop where
  own : w.ownsRow B t e v m (lCells l)
  nn : v ≠ .slice none 0 0
  b : Below w0.heap.size w0 w
  o2 : w0.heap.size ≤ B
  o3 : B ≤ w.heap.size
theorem Gat.below {w0 w w' : World} {B : Nat} {t : TypeId} {e : Nat} {v : Value} {m : Nat} {l : List Int} (s : Gat w0 w B t e v m l) (hb : Below w.heap.size w w') : Gat w0 w' B t e v m l :=
  ⟨own_bel s.own hb, s.nn, s.b.trans (hb.mono s.b.size), s.o2, Nat.le_trans s.o3 hb.size⟩
theorem Gat.grow {w0 w w' : World} {B : Nat} {t : TypeId} {e : Nat} {v v' : Value} {m m' : Nat} {l l' : List Int} (s : Gat w0 w B t e v m l) (h1 : w'.ownsRow B t e v' m' (lCells l ++ lCells l')) (hg : w.grownBy w' v.ownBlock) (hv : v' ≠ .slice none 0 0) : Gat w0 w' B t e v' m' (l ++ l') := by
  have Bg : Below B w w' := Below.grown (Below.refl _ _) hg s.o3 (fun x hx => (own_ge s.own hx).1)
  exact ⟨by rw [lCells, List.map_append]; exact h1, hv, s.b.trans (Bg.mono s.o2), s.o2, Nat.le_trans s.o3 hg.size⟩
theorem Gat.keep {w0 w w' : World} {B : Nat} {t s : TypeId} {e q : Nat} {v : Value} {m : Nat} {l : List Int} {vs : Array Value} (h : Gat w0 w B t e v m l) (hg : w.grownBy w' v.ownBlock) (ha : At s w q vs) (hq : q < B) : At s w' q vs :=
  (hg.block q ha.lt (fun e => by have := (own_ge h.own e.symm).1; omega)).trans ha
theorem Gat.start {w0 W : World} {t : TypeId} {e : Nat} (h : At t W w0.heap.size #[]) (hb : Below w0.heap.size w0 W) : Gat w0 W w0.heap.size t e (.slice (some ⟨w0.heap.size, 0, none⟩) 0 0) 0 [] :=
  ⟨⟨by simp [lCells], .inr ⟨w0.heap.size, 0, #[], rfl, Nat.le_refl _, h, Nat.le_refl _, Nat.zero_le _, by simp, by simp [lCells]⟩⟩, (fun h => by cases h), hb, Nat.le_refl _, hb.size⟩
/-- A gathered list, read. -/
theorem Gat.open {w0 w : World} {B : Nat} {t : TypeId} {e : Nat} {v : Value} {m : Nat} {l : List Int} (s : Gat w0 w B t e v m l) : ∃ g c, v = .slice (some ⟨g, 0, none⟩) m c ∧ B ≤ g ∧ m ≤ c ∧ g < w.heap.size ∧ ∀ i, i < l.length → w.cell? ⟨g, i, none⟩ = some (.int .i64 (l.getD i 0)) := by
  rcases s.own.2 with ⟨e, _⟩ | ⟨g, c, cur, e, hb, hh, hc1, hc2, hsz, ht⟩
  · exact absurd e s.nn
  · refine ⟨g, c, e, hb, hc1, (Array.getElem?_eq_some_iff.1 hh).1, fun i hi => ?_⟩
    have hl := s.own.1
    simp only [lCells, List.length_map] at hl
    have a1 : (lCells l)[i]? = some (.int .i64 (l.getD i 0)) := by simp [lCells, hi]
    rw [← ht] at a1
    rw [List.getElem?_take_of_lt (by omega)] at a1
    simpa [World.cell?, hh] using a1
theorem Gat.len {w0 w : World} {B : Nat} {t : TypeId} {e : Nat} {v : Value} {m : Nat} {l : List Int} (s : Gat w0 w B t e v m l) : l.length = m * e := by
  have hl := s.own.1
  simpa [lCells] using hl
theorem news1 {w : World} {t : TypeId} {g : Nat} {x : Int} (h : At t w g #[.int .i64 x]) : ∀ j u, (lCells [x])[j]? = some u → w.cell? ((⟨g, 0, none⟩ : Addr).add j) = some u := by
  intro j u hu
  rcases j with _ | j
  · simp [lCells] at hu; subst hu; exact h.cell 0 rfl
  · simp [lCells] at hu
theorem Gat.keepT {w0 w w' : World} {B : Nat} {t s : TypeId} {e q : Nat} {v : Value} {m : Nat} {l : List Int} {vs : Array Value} (h : Gat w0 w B t e v m l) (hg : w.grownBy w' v.ownBlock) (ha : At s w q vs) (hst : s ≠ t) : At s w' q vs := by
  refine (hg.block q ha.lt (fun e => ?_)).trans ha
  rcases h.own.2 with ⟨e1, -⟩ | ⟨g, c, cur, rfl, hb, hh, -⟩
  · exact h.nn e1
  · simp only [Value.ownBlock, Option.some.injEq] at e
    subst e
    have h1 := ha
    unfold At at h1
    rw [h1] at hh
    injection hh with hh
    injection hh with h2 h3
    exact hst h3
/-- The numbers of leaps. -/
def fl : List (Int × Int) → List Int
  | [] => []
  | p :: l => p.1 :: p.2 :: fl l
theorem fl_len (l : List (Int × Int)) : (fl l).length = l.length * 2 := by
  induction l with
  | nil => rfl
  | cons p l ih => simp [fl, ih]; omega
theorem fl_append (l m : List (Int × Int)) : fl (l ++ m) = fl l ++ fl m := by
  induction l with
  | nil => rfl
  | cons p l ih => simp [fl, ih]
theorem fl_at (l : List (Int × Int)) {i : Nat} (h : i < l.length) : (fl l).getD (i * 2) 0 = (l.getD i (0, 0)).1 ∧ (fl l).getD (i * 2 + 1) 0 = (l.getD i (0, 0)).2 := by
  induction l generalizing i with
  | nil => simp at h
  | cons p l ih =>
    cases i with
    | zero => simp [fl]
    | succ i =>
      have := ih (i := i) (by simpa using h)
      have e1 : (i + 1) * 2 = i * 2 + 1 + 1 := by omega
      rw [e1]
      simpa [fl] using this
theorem news2 {w : World} {t : TypeId} {g : Nat} {x y : Int} (h : At t w g #[.int .i64 x, .int .i64 y]) : ∀ j u, (lCells [x, y])[j]? = some u → w.cell? ((⟨g, 0, none⟩ : Addr).add j) = some u := by
  intro j u hu
  rcases j with _ | _ | j
  · simp [lCells] at hu; subst hu; exact h.cell 0 rfl
  · simp [lCells] at hu; subst hu; exact h.cell 1 rfl
  · simp [lCells] at hu
/-- Leaps that lie in block g. -/
def Lps (w : World) (g : Nat) (l : List (Int × Int)) : Prop := g < w.heap.size ∧ ∀ i, i < l.length → w.cell? ⟨g, i * 2, none⟩ = some (.int .i64 (l.getD i (0, 0)).1) ∧ w.cell? ⟨g, i * 2 + 1, none⟩ = some (.int .i64 (l.getD i (0, 0)).2)
theorem Lps.below {w w' : World} {g : Nat} {l : List (Int × Int)} (h : Lps w g l) (hb : Below w.heap.size w w') : Lps w' g l :=
  ⟨Nat.lt_of_lt_of_le h.1 hb.size, fun i hi => ⟨(hb.cell (p := ⟨g, i * 2, none⟩) h.1).trans (h.2 i hi).1, (hb.cell (p := ⟨g, i * 2 + 1, none⟩) h.1).trans (h.2 i hi).2⟩⟩
theorem Gat.lps {w0 w : World} {B : Nat} {t : TypeId} {v : Value} {m : Nat} {l : List (Int × Int)} (s : Gat w0 w B t 2 v m (fl l)) : m = l.length ∧ ∃ g c, v = .slice (some ⟨g, 0, none⟩) m c ∧ B ≤ g ∧ Lps w g l := by
  obtain ⟨g, c, e, h1, h2, h3, h4⟩ := s.open
  have hl := s.len
  rw [fl_len] at hl
  refine ⟨by omega, g, c, e, h1, h3, fun i hi => ?_⟩
  obtain ⟨a1, a2⟩ := fl_at l hi
  rw [← a1, ← a2]
  exact ⟨h4 _ (by rw [fl_len]; omega), h4 _ (by rw [fl_len]; omega)⟩
/-- The leap from spot i to spot j. -/
def lpp (f : Nat → Int) (i j : Nat) : Int × Int := (f (j * 3) - f (i * 3), f (j * 3 + 1) - f (i * 3 + 1))
def lpC (f : Nat → Int) (i : Nat) : Nat → List (Int × Int)
  | 0 => []
  | j + 1 => if i = j then lpC f i j else lpC f i j ++ [lpp f i j]
def lpR (f : Nat → Int) (n : Nat) : Nat → List (Int × Int)
  | 0 => []
  | i + 1 => lpR f n i ++ lpC f i n
theorem lpC_len (f : Nat → Int) (i j : Nat) : (lpC f i j).length ≤ j := by
  induction j with
  | zero => exact Nat.le_refl _
  | succ j ih =>
    rw [lpC]
    by_cases e : i = j
    · rw [if_pos e]; omega
    · rw [if_neg e, List.length_append]; simp; omega
theorem lpR_len (f : Nat → Int) {n i : Nat} (hn : n ≤ 16) : (lpR f n i).length ≤ i * 16 := by
  induction i with
  | zero => exact Nat.le_refl _
  | succ i ih => have := lpC_len f i n; rw [lpR, List.length_append]; omega
theorem infoLeap : (Try.prog.info? 66).map (fun i => (i.zero, i.size, i.bytes)) = some (some (.agg #[.int .i64 0, .int .i64 0]), 2, 16) := by kernel_rfl
set_option maxRecDepth 100000 in
set_option maxHeartbeats 4000000 in
theorem leapsOf_any {w : World} {g n cp : Nat} {f : Nat → Int} (h : Trips w g n f) (hs : SpOk n f) :
    Calls Try.prog 32 #[.slice (some ⟨g, 0, none⟩) n cp] w fun e w' => ∃ v, e = .returned v ∧ Gat w w' w.heap.size 66 2 v (lpR f n n).length (fl (lpR f n n)) := by
  obtain ⟨i0, hi0, hz0, hz1, hz2⟩ := info_parts infoLeap
  obtain ⟨V, hV, A0, B, -⟩ := boxed w 66 #[]
  have R : Gat w V w.heap.size 66 2 (.slice (some ⟨w.heap.size, 0, none⟩) 0 0) 0 [] := Gat.start A0 B
  have hbs : ∀ w, (Instr.buildSlice 62 0 #[]).run Try.prog w = .ok (.slice (some ⟨w.heap.size, 0, none⟩) 0 0) (w.alloc (.cells #[] 66)) := fun _ => by kernel_rfl
  have hn := hs.1
  have hn' : (n : Int) ≤ 16 := by omega
  have hLen := lpR_len f (i := n) hn
  obtain ⟨O, hO⟩ : ∃ O, lpR f n n = O := ⟨_, rfl⟩
  rw [hO]
  go_enter Try.func32, Try.ntmps32
  go_wp2
  clear hV A0 B
  go_loopw [3, 11] (fun s t wr => ∃ (i m : Nat) (L : List (Int × Int)), i ≤ n ∧ lpR f n i = L ∧ L.length = m ∧ t = .int .i64 (i : Int) ∧ Gat w wr w.heap.size 66 2 s m (fl L)) (fun _ t _ => n - (intOf t).toNat)
  case atStart => exact ⟨0, 0, [], Nat.zero_le _, rfl, rfl, rfl, R⟩
  case round =>
    clear R
    obtain ⟨i, m, L, hi, hL, hm, rfl, R⟩ := hrel
    by_cases hlt : i < n
    · have hlt' : (i : Int) < (n : Int) := by omega
      have hmi : m ≤ i * 16 := by rw [← hm, ← hL]; exact lpR_len f hn
      obtain ⟨c0, c1, c2⟩ := (h.below R.b).open i hlt
      obtain ⟨W1, hW1, a1, bb, -⟩ := boxed wr 32 #[.int .i64 (f (i * 3)), .int .i64 (f (i * 3 + 1)), .int .i64 (f (i * 3 + 2))]
      have R1 := R.below bb
      obtain ⟨q1, hq1⟩ : ∃ q, wr.heap.size = q := ⟨_, rfl⟩
      rw [hq1] at a1
      have HL : Hid (lpR f n i = L) := hL
      have HM : Hid (L.length = m) := hm
      clear bb hL hm
      go_wp2
      clear c0 c1 c2 hW1 R hq1
      go_loopw [3, 18] (fun s t wr => ∃ (j k : Nat) (M : List (Int × Int)), j ≤ n ∧ L ++ lpC f i j = M ∧ M.length = k ∧ t = .int .i64 (j : Int) ∧ At 32 wr q1 #[.int .i64 (f (i * 3)), .int .i64 (f (i * 3 + 1)), .int .i64 (f (i * 3 + 2))] ∧ Gat w wr w.heap.size 66 2 s k (fl M)) (fun _ t _ => n - (intOf t).toNat)
      case atStart => exact ⟨0, m, L, Nat.zero_le _, by simp [lpC], HM.out, rfl, a1, R1⟩
      case round =>
        clear R1 a1
        obtain ⟨j, k, M, hj, hM, hk, rfl, a1, R⟩ := hrel
        by_cases hjt : j < n
        · have hjt' : (j : Int) < (n : Int) := by omega
          have hk1 : k ≤ i * 16 + j := by rw [← hk, ← hM, List.length_append, HM.out]; have := lpC_len f i j; omega
          obtain ⟨d0, d1, d2⟩ := (h.below R.b).open j hjt
          obtain ⟨W2, hW2, a2, bb, -⟩ := boxed wr 32 #[.int .i64 (f (j * 3)), .int .i64 (f (j * 3 + 1)), .int .i64 (f (j * 3 + 2))]
          have R2 := R.below bb
          have a1' := a1.below bb
          obtain ⟨p1, p2⟩ := hs.2 j hjt
          obtain ⟨p3, p4⟩ := hs.2 i hlt
          obtain ⟨q2, hq2⟩ : ∃ q, wr.heap.size = q := ⟨_, rfl⟩
          rw [hq2] at a2
          clear bb
          by_cases e : i = j
          · have HM2 : Hid (L ++ lpC f i (j + 1) = M) := by rw [lpC, if_pos e]; exact hM
            have HK : Hid (M.length = k) := hk
            have e' : (i : Int) = (j : Int) := by omega
            have e9 : ((i : Int) != (j : Int)) = false := by simp [e]
            clear hM hk e e' R a1
            go_wp2
            exact ⟨⟨j + 1, k, M, by omega, HM2.out, HK.out, by go_num, a1', R2⟩, by simp [intOf]; omega⟩
          · have HM2 : Hid (L ++ lpC f i (j + 1) = M ++ [lpp f i j]) := by rw [lpC, if_neg e, ← List.append_assoc, hM]; exact rfl
            have HK : Hid (M.length = k) := hk
            have e' : ¬ (i : Int) = (j : Int) := by omega
            have e9 : ((i : Int) != (j : Int)) = true := by simp; omega
            clear hM hk R a1
            obtain ⟨y0, y1, y2, -⟩ := a1'.open3
            obtain ⟨z0, z1, z2, -⟩ := a2.open3
            go_wp2_with fail
            refine (leapTo_any p1 p2 p3 p4 _).mono ?_
            rintro e w5 ⟨rfl, bb⟩
            replace R2 := R2.below bb
            replace a1' := a1'.below bb
            clear y0 y1 y2 z0 z1 z2 d0 d1 d2 hW2 hq2 a2 bb
            obtain ⟨X, hX⟩ : ∃ X, f (j * 3) - f (i * 3) = X := ⟨_, rfl⟩
            obtain ⟨Y, hY⟩ : ∃ Y, f (j * 3 + 1) - f (i * 3 + 1) = Y := ⟨_, rfl⟩
            have hlp : lpp f i j = (X, Y) := by rw [lpp, hX, hY]
            rw [hlp] at HM2
            rw [hX, hY]
            obtain ⟨V9, hV9, A9, b10, -⟩ := boxed w5 66 #[.int .i64 X, .int .i64 Y]
            have R9 := R2.below b10
            have a19 := a1'.below b10
            obtain ⟨g9, hg9⟩ : ∃ g, w5.heap.size = g := ⟨_, rfl⟩
            rw [hg9] at A9
            have hb2 : ∀ w, (Instr.buildSlice 62 1 #[(0, .agg #[.int .i64 X, .int .i64 Y])]).run Try.prog w = .ok (.slice (some ⟨w.heap.size, 0, none⟩) 1 1) (w.alloc (.cells #[.int .i64 X, .int .i64 Y] 66)) := fun _ => by kernel_rfl
            clear b10 R2 a1' hX hY hlp
            go_wp2_with (at_builtin; refine wpList_append_own _ rfl _ _ _ rfl w.heap.size 66 i0 _ 2 16 Try.underlying62 hi0 hz0 hz1 hz2 rfl (by omega) u3 k (lCells (fl M)) rfl R9.own ⟨g9, 0, none⟩ 1 1 (lCells [X, Y]) rfl rfl (news2 A9) (lCells_one _) (by unfold maxLen; omega) (by omega) R9.o3 ?_; intro v2 w6 hown2 hgrow2 hne2)
            have R3 := R9.grow hown2 hgrow2 (fun h => R9.nn (hne2.1 h).1)
            have a3 := R9.keepT hgrow2 a19 (by decide)
            refine ⟨⟨j + 1, k + 1, M ++ [(X, Y)], by omega, HM2.out, by rw [List.length_append, HK.out]; rfl, by go_num, a3, ?_⟩, by simp [intOf]; omega⟩
            rw [fl_append]
            exact R3
        · have hjt' : ¬ (j : Int) < (n : Int) := by omega
          obtain rfl : j = n := by omega
          have HM2 : Hid (lpR f j (i + 1) = M) := by rw [lpR, HL.out]; exact hM
          have HK : Hid (M.length = k) := hk
          clear hM hk
          go_wp2
          exact ⟨⟨i + 1, k, M, by omega, HM2.out, HK.out, by go_num, R⟩, by simp [intOf]; omega⟩
    · have hlt' : ¬ (i : Int) < (n : Int) := by omega
      obtain rfl : i = n := by omega
      obtain rfl : L = O := hL.symm.trans hO
      obtain rfl := hm
      clear hL hO
      go_wp2
      exact bodyPost_ret (v := u3) (by simp [results, Try.results32, go_sem]) rfl ⟨_, rfl, R⟩
set_option maxHeartbeats 4000000 in
theorem index_any {w : World} {g c : Nat} {l : List (Int × Int)} {x y : Int} (h : Lps w g l) (hn : l.length ≤ 1000) :
    Calls Try.prog 65 #[.slice (some ⟨g, 0, none⟩) l.length c, lV x y] w fun e w' => ∃ r : Int, e = .returned (.int .i64 r) ∧ ((r = -1 ∧ (x, y) ∉ l) ∨ (0 ≤ r ∧ (x, y) ∈ l)) ∧ Below w.heap.size w w' := by
  obtain ⟨n, hln⟩ : ∃ n, l.length = n := ⟨_, rfl⟩
  rw [hln] at hn ⊢
  have hn' : (n : Int) ≤ 1000 := by omega
  obtain ⟨V, hV, b0, bW, -⟩ := boxed w 66 #[.int .i64 x, .int .i64 y]
  go_enter Try.func65, Try.ntmps65
  go_wp2
  clear hV
  go_loopw [8] (fun s wr => ∃ k : Nat, k ≤ n ∧ s = .int .i64 k ∧ (∀ i, i < k → l.getD i (0, 0) ≠ (x, y)) ∧ At 66 wr w.heap.size #[.int .i64 x, .int .i64 y] ∧ Below w.heap.size w wr) (fun s _ => n - (intOf s).toNat)
  case atStart => exact ⟨0, Nat.zero_le _, rfl, fun i hi => absurd hi (Nat.not_lt_zero _), b0, bW⟩
  case round =>
    clear b0 bW
    obtain ⟨k, hk, rfl, hno, b0, bW⟩ := hrel
    by_cases hlt : k < n
    · have hlt' : (k : Int) < (n : Int) := by omega
      have hk0 : (0 : Int) ≤ (k : Int) := by omega
      obtain ⟨c0, c1⟩ := (h.below bW).2 k (by omega)
      obtain ⟨d0, d1, -⟩ := b0.open2
      have hel : l.getD k (0, 0) ∈ l := by rw [List.getD_eq_getElem?_getD, List.getElem?_eq_getElem (by omega)]; exact List.getElem_mem _
      obtain ⟨P, hP⟩ : ∃ P, l.getD k (0, 0) = P := ⟨_, rfl⟩
      rw [hP] at c0 c1 hel
      obtain ⟨px, py⟩ := P
      have HB0 : Hid (At 66 wr w.heap.size #[.int .i64 x, .int .i64 y]) := b0
      clear b0
      simp only at c0 c1
      by_cases e1 : x = px
      · subst e1
        by_cases e2 : y = py
        · subst e2
          have hyes : Hid ((x, y) ∈ l) := hel
          clear hP hel hno
          go_upto_region 4 with (fail)
          go_region
          go_wp2
          go_ret
          exact ⟨_, rfl, .inr ⟨by omega, hyes.out⟩, bW.drew⟩
        · have hne : Hid (∀ i, i < k + 1 → l.getD i (0, 0) ≠ (x, y)) := Hid.out fun i hi => by
            by_cases e : i = k
            · subst e; rw [hP]; intro h; cases h; exact e2 rfl
            · exact hno i (by omega)
          clear hP hel hno
          go_upto_region 4 with (fail)
          go_region
          go_wp2
          exact ⟨⟨k + 1, by omega, by go_num, hne.out, HB0.out.below (Below.refl _ _).drew, bW.drew⟩, by simp [intOf]; omega⟩
      · have hne : Hid (∀ i, i < k + 1 → l.getD i (0, 0) ≠ (x, y)) := Hid.out fun i hi => by
          by_cases e : i = k
          · subst e; rw [hP]; intro h; cases h; exact e1 rfl
          · exact hno i (by omega)
        clear hP hel hno
        go_upto_region 4 with (fail)
        go_region
        go_wp2
        exact ⟨⟨k + 1, by omega, by go_num, hne.out, HB0.out.below (Below.refl _ _).drew, bW.drew⟩, by simp [intOf]; omega⟩
    · have hlt' : ¬ (k : Int) < (n : Int) := by omega
      obtain rfl : k = n := by omega
      have hnot : (x, y) ∉ l := by
        intro hh
        obtain ⟨i, hi, he⟩ := List.getElem_of_mem hh
        refine hno i (by omega) ?_
        rw [List.getD_eq_getElem?_getD, List.getElem?_eq_getElem hi, he]; rfl
      have HN : Hid ((x, y) ∉ l) := hnot
      clear hno hnot
      go_wp2
      go_ret
      exact ⟨_, rfl, .inl ⟨rfl, HN.out⟩, bW⟩
theorem contains_any {w : World} {g c : Nat} {l : List (Int × Int)} {x y : Int} (h : Lps w g l) (hn : l.length ≤ 1000) :
    Calls Try.prog 55 #[.slice (some ⟨g, 0, none⟩) l.length c, lV x y] w fun e w' => e = .returned (.bool (pd ((x, y) ∈ l))) ∧ Below w.heap.size w w' := by
  obtain ⟨n, hln⟩ : ∃ n, l.length = n := ⟨_, rfl⟩
  have IX := fun w c (h : Lps w g l) => index_any (x := x) (y := y) (c := c) h hn
  rw [hln] at IX
  rw [hln]
  obtain ⟨D, hD⟩ : ∃ D, pd ((x, y) ∈ l) = D := ⟨_, rfl⟩
  rw [hD]
  obtain ⟨V, hV, b0, bW, -⟩ := boxed w 66 #[.int .i64 x, .int .i64 y]
  obtain ⟨c0, c1, -⟩ := b0.open2
  go_enter Try.func55, Try.ntmps55
  go_wp2_with fail
  refine (IX _ _ (h.below bW)).mono ?_
  rintro e w2 ⟨r, rfl, hr, bb⟩
  replace bW := bW.trans (bb.mono bW.size)
  clear bb c0 c1 IX
  rcases hr with ⟨rfl, hno⟩ | ⟨hr, hyes⟩
  · obtain rfl : D = false := hD.symm.trans (pd_no hno)
    clear hno hD
    go_wp2
    go_ret
    exact ⟨rfl, bW⟩
  · obtain rfl : D = true := hD.symm.trans (pd_yes hyes)
    clear hyes hD
    go_wp2
    go_ret
    exact ⟨by simp, bW⟩
/-- The first k leaps without doubles. -/
def dsT (l : List (Int × Int)) : Nat → List (Int × Int)
  | 0 => []
  | k + 1 => if l.getD k (0, 0) ∈ dsT l k then dsT l k else dsT l k ++ [l.getD k (0, 0)]
theorem dsT_len (l : List (Int × Int)) (k : Nat) : (dsT l k).length ≤ k := by
  induction k with
  | zero => exact Nat.le_refl _
  | succ k ih =>
    rw [dsT]
    by_cases e : l.getD k (0, 0) ∈ dsT l k
    · rw [if_pos e]; omega
    · rw [if_neg e, List.length_append]; simp; omega
set_option maxRecDepth 100000 in
set_option maxHeartbeats 4000000 in
theorem distinct_any {w : World} {g c : Nat} {l : List (Int × Int)} (h : Lps w g l) (hn : l.length ≤ 1000) :
    Calls Try.prog 31 #[.slice (some ⟨g, 0, none⟩) l.length c] w fun e w' => ∃ v, e = .returned v ∧ Gat w w' w.heap.size 66 2 v (dsT l l.length).length (fl (dsT l l.length)) := by
  obtain ⟨n, hln⟩ : ∃ n, l.length = n := ⟨_, rfl⟩
  rw [hln] at hn ⊢
  have hn' : (n : Int) ≤ 1000 := by omega
  obtain ⟨i0, hi0, hz0, hz1, hz2⟩ := info_parts infoLeap
  obtain ⟨V, hV, A0, B, -⟩ := boxed w 66 #[]
  have R : Gat w V w.heap.size 66 2 (.slice (some ⟨w.heap.size, 0, none⟩) 0 0) 0 [] := Gat.start A0 B
  have hbs : ∀ w, (Instr.buildSlice 62 0 #[]).run Try.prog w = .ok (.slice (some ⟨w.heap.size, 0, none⟩) 0 0) (w.alloc (.cells #[] 66)) := fun _ => by kernel_rfl
  obtain ⟨O, hO⟩ : ∃ O, dsT l n = O := ⟨_, rfl⟩
  rw [hO]
  go_enter Try.func31, Try.ntmps31
  go_wp2
  clear hV A0 B
  go_loopw [3, 9] (fun s t wr => ∃ (k m : Nat) (L : List (Int × Int)), k ≤ n ∧ dsT l k = L ∧ L.length = m ∧ t = .int .i64 (k : Int) ∧ Gat w wr w.heap.size 66 2 s m (fl L)) (fun _ t _ => n - (intOf t).toNat)
  case atStart => exact ⟨0, 0, [], Nat.zero_le _, rfl, rfl, rfl, R⟩
  case round =>
    clear R
    obtain ⟨k, m, L, hk, hL, hm, rfl, R⟩ := hrel
    by_cases hlt : k < n
    · have hlt' : (k : Int) < (n : Int) := by omega
      have hmk : m ≤ k := by rw [← hm, ← hL]; exact dsT_len l k
      obtain ⟨c0, c1⟩ := (h.below R.b).2 k (by omega)
      obtain ⟨P, hP⟩ : ∃ P, l.getD k (0, 0) = P := ⟨_, rfl⟩
      rw [hP] at c0 c1
      obtain ⟨x, y⟩ := P
      simp only at c0 c1
      obtain ⟨W1, hW1, a1, bb, -⟩ := boxed wr 66 #[.int .i64 x, .int .i64 y]
      have R1 := R.below bb
      obtain ⟨q1, hq1⟩ : ∃ q, wr.heap.size = q := ⟨_, rfl⟩
      rw [hq1] at a1
      obtain ⟨d0, d1, -⟩ := a1.open2
      obtain ⟨-, gg, cc, hu, -, hLp⟩ := R1.lps
      have CT := contains_any (c := cc) (x := x) (y := y) hLp (by omega)
      rw [hm] at CT
      have HU : Hid (u3 = .slice (some ⟨gg, 0, none⟩) m cc) := hu
      subst hu
      clear bb HU R
      go_wp2_with fail
      refine CT.mono ?_
      rintro e w3 ⟨rfl, bb⟩
      replace R1 := R1.below bb
      replace a1 := a1.below bb
      clear bb d0 d1 c0 c1 hW1 hq1 CT hLp
      by_cases hin : (x, y) ∈ L
      · rw [pd_yes hin]
        have HL : Hid (dsT l (k + 1) = L) := by rw [dsT, hL, hP, if_pos hin]; exact rfl
        have HM : Hid (L.length = m) := hm
        clear hL hm hin hP hO
        go_wp2
        exact ⟨⟨k + 1, m, L, by omega, HL.out, HM.out, by go_num, R1⟩, by simp [intOf]; omega⟩
      · rw [pd_no hin]
        have HL : Hid (dsT l (k + 1) = L ++ [(x, y)]) := by rw [dsT, hL, hP, if_neg hin]; exact rfl
        have HM : Hid (L.length = m) := hm
        clear hL hm hin hP hO
        obtain ⟨d0, d1, -⟩ := a1.open2
        obtain ⟨V9, hV9, A9, b10, -⟩ := boxed w3 66 #[.int .i64 x, .int .i64 y]
        have R9 := R1.below b10
        obtain ⟨g9, hg9⟩ : ∃ g, w3.heap.size = g := ⟨_, rfl⟩
        rw [hg9] at A9
        have hb2 : ∀ w, (Instr.buildSlice 62 1 #[(0, .agg #[.int .i64 x, .int .i64 y])]).run Try.prog w = .ok (.slice (some ⟨w.heap.size, 0, none⟩) 1 1) (w.alloc (.cells #[.int .i64 x, .int .i64 y] 66)) := fun _ => by kernel_rfl
        clear b10 R1
        go_wp2_with (at_builtin; refine wpList_append_own _ rfl _ _ _ rfl w.heap.size 66 i0 _ 2 16 Try.underlying62 hi0 hz0 hz1 hz2 rfl (by omega) (.slice (some ⟨gg, 0, none⟩) m cc) m (lCells (fl L)) rfl R9.own ⟨g9, 0, none⟩ 1 1 (lCells [x, y]) rfl rfl (news2 A9) (lCells_one _) (by unfold maxLen; omega) (by omega) R9.o3 ?_; intro v2 w6 hown2 hgrow2 hne2)
        have R3 := R9.grow hown2 hgrow2 (fun h => R9.nn (hne2.1 h).1)
        refine ⟨⟨k + 1, m + 1, L ++ [(x, y)], by omega, HL.out, by rw [List.length_append, HM.out]; rfl, by go_num, ?_⟩, by simp [intOf]; omega⟩
        rw [fl_append]
        exact R3
    · have hlt' : ¬ (k : Int) < (n : Int) := by omega
      obtain rfl : k = n := by omega
      obtain rfl : L = O := hL.symm.trans hO
      obtain rfl := hm
      clear hL hO
      go_wp2
      exact bodyPost_ret (v := u3) (by simp [results, Try.results31, go_sem]) rfl ⟨_, rfl, R⟩
/-- The leap goes ahead. -/
def Ah (x y : Int) : Prop := 0 < x ∨ (x = 0 ∧ 0 < y)
theorem isAhead_any (x y : Int) (w : World) : Calls Try.prog 39 #[lV x y] w fun e w' => e = .returned (.bool (pd (Ah x y))) ∧ Below w.heap.size w w' := by
  obtain ⟨V, hV, b0, bW, -⟩ := boxed w 66 #[.int .i64 x, .int .i64 y]
  obtain ⟨c0, c1, -⟩ := b0.open2
  by_cases h1 : 0 < x
  · rw [pd_yes (.inl h1)]
    go_enter Try.func39, Try.ntmps39
    go_wp2
    go_ret
    exact ⟨rfl, bW⟩
  · by_cases h2 : x = 0
    · by_cases h3 : 0 < y
      · rw [pd_yes (.inr ⟨h2, h3⟩)]
        subst h2
        go_enter Try.func39, Try.ntmps39
        go_wp2
        go_ret
        exact ⟨by simp, bW⟩
      · rw [pd_no (fun h => h.elim h1 fun h => h3 h.2)]
        subst h2
        go_enter Try.func39, Try.ntmps39
        go_wp2
        go_ret
        exact ⟨by simp, bW⟩
    · rw [pd_no (fun h => h.elim h1 fun h => h2 h.1)]
      go_enter Try.func39, Try.ntmps39
      go_wp2
      go_ret
      exact ⟨by simp, bW⟩
/-- How often p is among the first k. -/
def cnt (l : List (Int × Int)) (p : Int × Int) : Nat → Nat
  | 0 => 0
  | k + 1 => if l.getD k (0, 0) = p then cnt l p k + 1 else cnt l p k
theorem cnt_le (l : List (Int × Int)) (p : Int × Int) (k : Nat) : cnt l p k ≤ k := by
  induction k with
  | zero => exact Nat.le_refl _
  | succ k ih => rw [cnt]; split <;> omega
set_option maxHeartbeats 4000000 in
theorem countIn_any {w : World} {g c : Nat} {l : List (Int × Int)} {x y : Int} (h : Lps w g l) (hn : l.length ≤ 1000) :
    Calls Try.prog 41 #[lV x y, .slice (some ⟨g, 0, none⟩) l.length c] w fun e w' => e = .returned (.int .i64 (cnt l (x, y) l.length : Int)) ∧ Below w.heap.size w w' := by
  obtain ⟨n, hln⟩ : ∃ n, l.length = n := ⟨_, rfl⟩
  rw [hln] at hn ⊢
  have hn' : (n : Int) ≤ 1000 := by omega
  obtain ⟨V, hV, b0, bW, -⟩ := boxed w 66 #[.int .i64 x, .int .i64 y]
  obtain ⟨O, hO⟩ : ∃ O, cnt l (x, y) n = O := ⟨_, rfl⟩
  rw [hO]
  go_enter Try.func41, Try.ntmps41
  go_wp2
  clear hV
  go_loopw [5, 10] (fun s t wr => ∃ k m : Nat, k ≤ n ∧ cnt l (x, y) k = m ∧ m ≤ k ∧ s = .int .i64 (m : Int) ∧ t = .int .i64 (k : Int) ∧ At 66 wr w.heap.size #[.int .i64 x, .int .i64 y] ∧ Below w.heap.size w wr) (fun _ t _ => n - (intOf t).toNat)
  case atStart => exact ⟨0, 0, Nat.zero_le _, rfl, Nat.le_refl _, rfl, rfl, b0, bW⟩
  case round =>
    clear b0 bW
    obtain ⟨k, m, hk, hm, hmk, rfl, rfl, b0, bW⟩ := hrel
    by_cases hlt : k < n
    · have hlt' : (k : Int) < (n : Int) := by omega
      obtain ⟨c0, c1⟩ := (h.below bW).2 k (by omega)
      have hst : cnt l (x, y) (k + 1) = if l.getD k (0, 0) = (x, y) then m + 1 else m := by rw [cnt, hm]
      obtain ⟨P, hP⟩ : ∃ P, l.getD k (0, 0) = P := ⟨_, rfl⟩
      rw [hP] at c0 c1 hst
      obtain ⟨px, py⟩ := P
      simp only at c0 c1
      obtain ⟨W1, hW1, a1, bb, -⟩ := boxed wr 66 #[.int .i64 px, .int .i64 py]
      have b1 := b0.below bb
      have bW1 := bW.trans (bb.mono bW.size)
      obtain ⟨q1, hq1⟩ : ∃ q, wr.heap.size = q := ⟨_, rfl⟩
      rw [hq1] at a1
      obtain ⟨d0, d1, -⟩ := a1.open2
      obtain ⟨e0, e1, -⟩ := b1.open2
      clear bb
      by_cases f1 : px = x
      · by_cases f2 : py = y
        · rw [if_pos (by rw [f1, f2])] at hst
          have HS : Hid (cnt l (x, y) (k + 1) = m + 1) := hst
          subst f1 f2
          clear hst hm hP hO b0 a1
          go_wp2
          exact ⟨⟨k + 1, m + 1, by omega, HS.out, by omega, by go_num, by go_num, b1, bW1⟩, by simp [intOf]; omega⟩
        · rw [if_neg (fun h => f2 (congrArg Prod.snd h))] at hst
          have HS : Hid (cnt l (x, y) (k + 1) = m) := hst
          subst f1
          clear hst hm hP hO b0 a1
          go_wp2
          exact ⟨⟨k + 1, m, by omega, HS.out, by omega, rfl, by go_num, b1, bW1⟩, by simp [intOf]; omega⟩
      · rw [if_neg (fun h => f1 (congrArg Prod.fst h))] at hst
        have HS : Hid (cnt l (x, y) (k + 1) = m) := hst
        clear hst hm hP hO b0 a1
        go_wp2
        exact ⟨⟨k + 1, m, by omega, HS.out, by omega, rfl, by go_num, b1, bW1⟩, by simp [intOf]; omega⟩
    · have hlt' : ¬ (k : Int) < (n : Int) := by omega
      obtain rfl : k = n := by omega
      obtain rfl : m = O := hm.symm.trans hO
      clear hm hO
      go_wp2
      go_ret
      exact ⟨rfl, bW⟩
end Go.Proofs.Ytjlmiadmobbibaa
