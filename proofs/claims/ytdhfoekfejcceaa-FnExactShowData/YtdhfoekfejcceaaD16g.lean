/-
  Which data are right: by the program: walked. First its parts.
-/
import Derived.Test.YtdhfoekfejcceaaD16f
import Derived.Maps.AppendAt
import Derived.Lib.SliceRun
namespace Go.Proofs.Ytdhfoekfejcceaa
open Go.RowKit

theorem At.open1 {t : TypeId} {w : World} {q : Nat} {v : Value} (h : At t w q #[v]) : w.cell? ⟨q, 0, none⟩ = some v ∧ w.frozen? ⟨q, 0, none⟩ = false := ⟨h.cell 0 rfl, h.frozen 0⟩
theorem index_any {w : World} {g n c : Nat} {f : Nat → ByteArray} (x : ByteArray) (hS : Strs w g 0 n f) (hn : n ≤ 1048576) (b : Bool) (hb : Hid (b = true ↔ ∃ i, i < n ∧ f i = x)) :
    Calls Try.prog 57 #[.slice (some ⟨g, 0, none⟩) n c, .string x] w fun e w' => ∃ r : Int, e = .returned (.int .i64 r) ∧ (b = true ↔ 0 ≤ r) ∧ w = w' := by
  have hn' : (n : Int) ≤ 1048576 := by omega
  go_enter Try.func57, Try.ntmps57
  go_wp2
  go_loopw [8] (fun u wr => ∃ k : Nat, k ≤ n ∧ u = .int .i64 (k : Int) ∧ w = wr ∧ ∀ i, i < k → f i ≠ x) (fun u _ => n - (intOf u).toNat)
  case atStart => exact ⟨0, Nat.zero_le _, rfl, rfl, fun i hi => by omega⟩
  case round =>
    obtain ⟨k, hk, rfl, rfl, hall⟩ := hrel
    have HA : Hid (∀ i, i < k → f i ≠ x) := hall
    clear hall
    by_cases hlt : k < n
    · have hlt' : (k : Int) < (n : Int) := by omega
      have c0 := hS k hlt
      rw [Nat.zero_add] at c0
      by_cases e : f k = x
      · have H1 : Hid (b = true) := hb.out.2 ⟨k, hlt, e⟩
        rw [e] at c0
        have hbe := beq_self_eq_true x.toList
        clear e
        go_wp2
        go_ret
        exact ⟨_, rfl, ⟨fun _ => by omega, fun _ => H1.out⟩, rfl⟩
      · have hbe := (Go.Lib.bytes_beq_false_iff x (f k)).2 (fun k => e k.symm)
        have He : Hid (f k ≠ x) := e
        clear e
        go_wp2
        refine ⟨⟨k + 1, by omega, by go_num, by trivial, fun i hi => ?_⟩, by simp [intOf]; omega⟩
        by_cases ei : i = k
        · rw [ei]; exact He.out
        · exact HA.out i (by omega)
    · have hlt' : ¬ (k : Int) < (n : Int) := by omega
      go_wp2
      go_ret
      exact ⟨_, rfl, ⟨fun h => by obtain ⟨i, h1, h2⟩ := hb.out.1 h; exact absurd h2 (HA.out i (by omega)), fun h => by omega⟩, rfl⟩
theorem contains_any {w : World} {g n c : Nat} {f : Nat → ByteArray} (x : ByteArray) (hS : Strs w g 0 n f) (hn : n ≤ 1048576) (b : Bool) (hb : Hid (b = true ↔ ∃ i, i < n ∧ f i = x)) :
    Calls Try.prog 43 #[.slice (some ⟨g, 0, none⟩) n c, .string x] w fun e w' => e = .returned (.bool b) ∧ w = w' := by
  go_enter Try.func43, Try.ntmps43
  go_wp2_with fail
  refine (index_any x hS hn b hb).mono ?_
  rintro e w2 ⟨r, rfl, hr, rfl⟩
  cases b
  · have h1 := decide_eq_false (iff_no hr)
    clear hr hb
    go_wp2
    go_ret
    exact ⟨rfl, rfl⟩
  · have h1 := decide_eq_true (hr.1 rfl)
    clear hr hb
    go_wp2
    go_ret
    exact ⟨rfl, rfl⟩
theorem isSingle_any (s : ByteArray) (v : Value) (r : Int) (w : World) (hv : ∃ a n c, v = .slice a n c) : Calls Try.prog 45 #[.agg #[.string s, v, .int .i64 r]] w fun e w' => e = .returned (.bool (r == -1)) ∧ Below w.heap.size w w' := by
  obtain ⟨a, n, c, rfl⟩ := hv
  obtain ⟨W1, hW1, a1, b1, -⟩ := boxed w 46 #[.string s, .slice a n c, .int .i64 r]
  obtain ⟨c0, c1, c2, -⟩ := a1.open3
  go_enter Try.func45, Try.ntmps45
  go_wp2
  go_ret
  exact ⟨rfl, b1⟩
/-- An item that is right by itself. -/
def RgOk (s : ByteArray) (n : Nat) (r : Int) (f : Nat → ByteArray) : Prop := nmOk s ∧ (n : Int) = (if r = -1 then 1 else r) ∧ ∀ k, k < n → vlOk (f k)
set_option maxRecDepth 100000 in
set_option maxHeartbeats 3200000 in
theorem right_any {w : World} {g n c : Nat} {f : Nat → ByteArray} (s : ByteArray) (r : Int) (hS : Strs w g 0 n f) (hg : g < w.heap.size) (hn : n ≤ 1048576) (b : Bool) (hb : Hid (b = true ↔ RgOk s n r f)) :
    Calls Try.prog 44 #[.agg #[.string s, .slice (some ⟨g, 0, none⟩) n c, .int .i64 r]] w fun e w' => e = .returned (.bool b) ∧ Below w.heap.size w w' := by
  have hn' : (n : Int) ≤ 1048576 := by omega
  obtain ⟨W1, hW1, a1, b1, -⟩ := boxed w 46 #[.string s, .slice (some ⟨g, 0, none⟩) n c, .int .i64 r]
  obtain ⟨q1, hq1⟩ : ∃ q, w.heap.size = q := ⟨_, rfl⟩
  rw [hq1] at a1
  obtain ⟨c0, c1, c2, -⟩ := a1.open3
  have S1 : Strs W1 g 0 n f := fun i hi => (b1.cell (p := ⟨g, 0 + i, none⟩) hg).trans (hS i hi)
  have g1 := Nat.lt_of_lt_of_le hg b1.size
  clear hS hg
  obtain ⟨C, hC⟩ : ∃ C : Int, (if r = -1 then 1 else r) = C := ⟨_, rfl⟩
  obtain ⟨Z, hZ⟩ : ∃ Z, (r == -1) = Z := ⟨_, rfl⟩
  have HC : Hid ((if r = -1 then 1 else r) = C) := hC
  have HZ : Hid (C = if Z then 1 else r) := by
    show _ = _
    rw [← hC, ← hZ]
    by_cases e : r = -1
    · rw [if_pos e, e]; rfl
    · rw [if_neg e, beq_eq_false_iff_ne.2 e]; rfl
  have IS := fun w => isSingle_any s (.slice (some ⟨g, 0, none⟩) n c) r w ⟨_, _, _, rfl⟩
  rw [hZ] at IS
  clear hC hZ
  go_enter Try.func44, Try.ntmps44
  go_wp2_with fail
  refine (IS _).mono ?_
  rintro e w2 ⟨rfl, b2⟩
  have B2 := b1.trans (b2.mono b1.size)
  replace a1 := a1.below b2
  have S2 : Strs w2 g 0 n f := fun i hi => (b2.cell (p := ⟨g, 0 + i, none⟩) g1).trans (S1 i hi)
  have g2 := Nat.lt_of_lt_of_le g1 b2.size
  clear c0 c1 c2 S1 g1 b1 b2 IS hW1 hq1
  obtain ⟨c0, c1, c2, -⟩ := a1.open3
  obtain ⟨y1, hy1⟩ := bool_of (nmOk s)
  have N1 := fun w => isName_any s w y1 hy1
  have HY : Hid (y1 = true ↔ nmOk s) := hy1
  clear hy1
  cases Z
  · obtain rfl : C = r := HZ.out
    clear HZ
    go_wp2_with fail
    refine (N1 _).mono ?_
    rintro e w3 ⟨rfl, b3⟩
    have B3 := B2.trans (b3.mono B2.size)
    replace a1 := a1.below b3
    have S3 : Strs w3 g 0 n f := fun i hi => (b3.cell (p := ⟨g, 0 + i, none⟩) g2).trans (S2 i hi)
    have g3 := Nat.lt_of_lt_of_le g2 b3.size
    clear c0 c1 c2 S2 g2 B2 b3 N1
    obtain ⟨c0, c1, c2, -⟩ := a1.open3
    cases y1
    · obtain rfl := no_of hb (fun k => iff_no HY.out k.1)
      clear HY
      go_wp2
      go_ret
      exact ⟨rfl, B3⟩
    have H1 : Hid (nmOk s) := HY.out.1 rfl
    clear HY
    by_cases hnc : (n : Int) = C
    · have hne : ((n : Int) != C) = false := by simpa using hnc
      have HN : Hid ((n : Int) = C) := hnc
      clear hnc
      go_wp2
      clear c0 c1 c2
      go_loopw [24] (fun u wr => ∃ k : Nat, k ≤ n ∧ u = .int .i64 (k : Int) ∧ w3 = wr ∧ ∀ i, i < k → vlOk (f i)) (fun u _ => n - (intOf u).toNat)
      case atStart => exact ⟨0, Nat.zero_le _, rfl, rfl, fun i hi => by omega⟩
      case round =>
        obtain ⟨k, hk, rfl, rfl, hall⟩ := hrel
        have HA : Hid (∀ i, i < k → vlOk (f i)) := hall
        clear hall
        by_cases hlt : k < n
        · have hlt' : (k : Int) < (n : Int) := by omega
          have d0 := S3 k hlt
          rw [Nat.zero_add] at d0
          obtain ⟨y2, hy2⟩ := bool_of (vlOk (f k))
          have V2 := fun w => isValue_any (f k) w y2 hy2
          cases y2
          · obtain rfl := no_of hb (fun K => iff_no hy2 (K.2.2 k hlt))
            clear hy2
            go_wp2_with (go_at_call 58; refine (V2 _).mono ?_; rintro e w2 ⟨rfl, rfl⟩)
            go_ret
            exact ⟨rfl, B3⟩
          · have H2 : Hid (vlOk (f k)) := hy2.1 rfl
            clear hy2
            go_wp2_with (go_at_call 58; refine (V2 _).mono ?_; rintro e w2 ⟨rfl, rfl⟩)
            refine ⟨⟨k + 1, by omega, by go_num, by trivial, fun i hi => ?_⟩, by simp [intOf]; omega⟩
            by_cases e : i = k
            · rw [e]; exact H2.out
            · exact HA.out i (by omega)
        · have hlt' : ¬ (k : Int) < (n : Int) := by omega
          obtain rfl : b = true := hb.out.2 ⟨H1.out, by rw [HC.out]; exact HN.out, fun i hi => HA.out i (by omega)⟩
          go_wp2
          go_ret
          exact ⟨rfl, B3⟩
    · obtain rfl := no_of hb (fun k => hnc (by have := k.2.1; rw [HC.out] at this; exact this))
      have hne : ((n : Int) != C) = true := by simpa using hnc
      clear hnc
      go_wp2
      go_ret
      exact ⟨rfl, B3⟩
  · obtain rfl : C = 1 := HZ.out
    clear HZ
    go_wp2_with fail
    refine (N1 _).mono ?_
    rintro e w3 ⟨rfl, b3⟩
    have B3 := B2.trans (b3.mono B2.size)
    replace a1 := a1.below b3
    have S3 : Strs w3 g 0 n f := fun i hi => (b3.cell (p := ⟨g, 0 + i, none⟩) g2).trans (S2 i hi)
    have g3 := Nat.lt_of_lt_of_le g2 b3.size
    clear c0 c1 c2 S2 g2 B2 b3 N1
    obtain ⟨c0, c1, c2, -⟩ := a1.open3
    cases y1
    · obtain rfl := no_of hb (fun k => iff_no HY.out k.1)
      clear HY
      go_wp2
      go_ret
      exact ⟨rfl, B3⟩
    have H1 : Hid (nmOk s) := HY.out.1 rfl
    clear HY
    by_cases hnc : (n : Int) = 1
    · have hne : ((n : Int) != 1) = false := by simpa using hnc
      have HN : Hid ((n : Int) = 1) := hnc
      clear hnc
      go_wp2
      clear c0 c1 c2
      go_loopw [24] (fun u wr => ∃ k : Nat, k ≤ n ∧ u = .int .i64 (k : Int) ∧ w3 = wr ∧ ∀ i, i < k → vlOk (f i)) (fun u _ => n - (intOf u).toNat)
      case atStart => exact ⟨0, Nat.zero_le _, rfl, rfl, fun i hi => by omega⟩
      case round =>
        obtain ⟨k, hk, rfl, rfl, hall⟩ := hrel
        have HA : Hid (∀ i, i < k → vlOk (f i)) := hall
        clear hall
        by_cases hlt : k < n
        · have hlt' : (k : Int) < (n : Int) := by omega
          have d0 := S3 k hlt
          rw [Nat.zero_add] at d0
          obtain ⟨y2, hy2⟩ := bool_of (vlOk (f k))
          have V2 := fun w => isValue_any (f k) w y2 hy2
          cases y2
          · obtain rfl := no_of hb (fun K => iff_no hy2 (K.2.2 k hlt))
            clear hy2
            go_wp2_with (go_at_call 58; refine (V2 _).mono ?_; rintro e w2 ⟨rfl, rfl⟩)
            go_ret
            exact ⟨rfl, B3⟩
          · have H2 : Hid (vlOk (f k)) := hy2.1 rfl
            clear hy2
            go_wp2_with (go_at_call 58; refine (V2 _).mono ?_; rintro e w2 ⟨rfl, rfl⟩)
            refine ⟨⟨k + 1, by omega, by go_num, by trivial, fun i hi => ?_⟩, by simp [intOf]; omega⟩
            by_cases e : i = k
            · rw [e]; exact H2.out
            · exact HA.out i (by omega)
        · have hlt' : ¬ (k : Int) < (n : Int) := by omega
          obtain rfl : b = true := hb.out.2 ⟨H1.out, by rw [HC.out]; exact HN.out, fun i hi => HA.out i (by omega)⟩
          go_wp2
          go_ret
          exact ⟨rfl, B3⟩
    · obtain rfl := no_of hb (fun k => hnc (by have := k.2.1; rw [HC.out] at this; exact this))
      have hne : ((n : Int) != 1) = true := by simpa using hnc
      clear hnc
      go_wp2
      go_ret
      exact ⟨rfl, B3⟩
/-- The names that stand ahead: a list of one's own. -/
def sCells (f : Nat → ByteArray) : Nat → List Value
  | 0 => []
  | n + 1 => sCells f n ++ [.string (f n)]
theorem sCells_len (f : Nat → ByteArray) (n : Nat) : (sCells f n).length = n := by
  induction n with
  | zero => rfl
  | succ n ih => simp [sCells, ih]
theorem sCells_at (f : Nat → ByteArray) {n i : Nat} (h : i < n) : (sCells f n)[i]? = some (.string (f i)) := by
  induction n with
  | zero => omega
  | succ n ih =>
    unfold sCells
    have hl := sCells_len f n
    by_cases e : i = n
    · subst e
      rw [List.getElem?_append_right (by omega), hl]; simp
    · rw [List.getElem?_append_left (by omega)]; exact ih (by omega)
structure Gs (w0 w : World) (B : Nat) (v : Value) (m : Nat) (f : Nat → ByteArray) : Prop where
  own : w.ownsRow B 9 1 v m (sCells f m)
  nn : v ≠ .slice none 0 0
  b : Below w0.heap.size w0 w
  o2 : w0.heap.size ≤ B
  o3 : B ≤ w.heap.size
theorem gs_ge {w : World} {base : Nat} {e : TypeId} {size : Nat} {v : Value} {n : Nat} {xs : List Value} (h : w.ownsRow base e size v n xs) {j : Nat} (hj : v.ownBlock = some j) : base ≤ j ∧ j < w.heap.size := by
  rcases h.2 with ⟨e1, -⟩ | ⟨g, c, cur, rfl, hb, hh, -⟩
  · subst e1; cases hj
  · simp [Value.ownBlock] at hj
    subst hj
    exact ⟨hb, (Array.getElem?_eq_some_iff.1 hh).1⟩
theorem own_belS {w w' : World} {B : Nat} {e : TypeId} {k : Nat} {v : Value} {n : Nat} {xs : List Value} (h : w.ownsRow B e k v n xs) (hb : Below w.heap.size w w') : w'.ownsRow B e k v n xs := by
  refine ⟨h.1, h.2.imp id ?_⟩
  rintro ⟨g, cap, cur, rfl, h1, h2, h3⟩
  exact ⟨g, cap, cur, rfl, h1, (hb.block g (Array.getElem?_eq_some_iff.1 h2).1).trans h2, h3⟩
theorem Gs.below {w0 w w' : World} {B : Nat} {v : Value} {m : Nat} {f : Nat → ByteArray} (s : Gs w0 w B v m f) (hb : Below w.heap.size w w') : Gs w0 w' B v m f :=
  ⟨own_belS s.own hb, s.nn, s.b.trans (hb.mono s.b.size), s.o2, Nat.le_trans s.o3 hb.size⟩
theorem Gs.open {w0 w : World} {B : Nat} {v : Value} {m : Nat} {f : Nat → ByteArray} (s : Gs w0 w B v m f) : ∃ g c, v = .slice (some ⟨g, 0, none⟩) m c ∧ Strs w g 0 m f ∧ g < w.heap.size ∧ B ≤ g := by
  rcases s.own.2 with ⟨e1, -⟩ | ⟨g, c, cur, rfl, hb, hh, hc1, hc2, hsz, ht⟩
  · exact absurd e1 s.nn
  · refine ⟨g, c, rfl, fun i hi => ?_, (Array.getElem?_eq_some_iff.1 hh).1, hb⟩
    have a1 := sCells_at f hi
    rw [← ht, List.getElem?_take_of_lt (by omega)] at a1
    rw [Nat.zero_add]
    simpa [World.cell?, hh] using a1
theorem Gs.grow {w0 w w' : World} {B : Nat} {v v' : Value} {m : Nat} {f : Nat → ByteArray} (s : Gs w0 w B v m f) (h1 : w'.ownsRow B 9 1 v' (m + 1) (sCells f m ++ [.string (f m)])) (hg : w.grownBy w' v.ownBlock) (hv : v' ≠ .slice none 0 0) : Gs w0 w' B v' (m + 1) f := by
  refine ⟨h1, hv, s.b.grown hg s.b.size (fun k hk => Nat.le_trans s.o2 (gs_ge s.own hk).1), s.o2, Nat.le_trans s.o3 hg.size⟩
/-- Items that are right, each by itself and against those ahead. -/
def ArOk (N : Nat) (nm : Nat → ByteArray) (n : Nat → Nat) (rw : Nat → Int) (f : Nat → Nat → ByteArray) : Prop := N ≤ 200 ∧ ∀ i, i < N → tot n (i + 1) ≤ 4000 ∧ (∀ j, j < i → nm j ≠ nm i) ∧ RgOk (nm i) (n i) (rw i) (f i)
theorem news1s {w : World} {t : TypeId} {g : Nat} {x : Value} (h : At t w g #[x]) : ∀ (j : Nat) (u : Value), [x][j]? = some u → w.cell? ((⟨g, 0, none⟩ : Addr).add j) = some u := by
  intro j u hu
  obtain rfl : j = 0 := by
    have := (List.getElem?_eq_some_iff.1 hu).1
    simp at this
    exact this
  simp at hu
  subst hu
  exact h.cell 0 rfl
set_option maxRecDepth 100000 in
set_option maxHeartbeats 6400000 in
theorem areItems_any {w : World} {g N : Nat} {vb : Nat → Nat} {nm : Nat → ByteArray} {n : Nat → Nat} {rw : Nat → Int} {f : Nat → Nat → ByteArray} (D : ItO w g N N vb nm n rw f) (hN : N ≤ 1048576) (hn : ∀ i, i < N → n i ≤ 1048576) (b : Bool) (hb : Hid (b = true ↔ ArOk N nm n rw f)) :
    Calls Try.prog 26 #[.slice (some ⟨g, 0, none⟩) N N] w fun e w' => e = .returned (.bool b) ∧ Below w.heap.size w w' := by
  have hN' : (N : Int) ≤ 1048576 := by omega
  by_cases hN2 : 200 < N
  · obtain rfl := no_of hb (fun k => by have := k.1; omega)
    have hN3 : (200 : Int) < (N : Int) := by omega
    go_enter Try.func26, Try.ntmps26
    go_wp2
    go_ret
    exact ⟨rfl, Below.refl _ _⟩
  have hN3 : ¬ (200 : Int) < (N : Int) := by omega
  obtain ⟨i0, hj0, hz0, hz1, hz2⟩ := info_parts infoStr
  obtain ⟨V, hV, A0, bb, -⟩ := boxed w 9 #[]
  have G : Gs w V w.heap.size (.slice (some ⟨w.heap.size, 0, none⟩) 0 0) 0 nm := ⟨⟨rfl, .inr ⟨w.heap.size, 0, #[], rfl, Nat.le_refl _, A0, Nat.le_refl _, Nat.zero_le _, rfl, rfl⟩⟩, (fun h => by cases h), bb, Nat.le_refl _, bb.size⟩
  have hbs : ∀ w, (Instr.buildSlice 35 0 #[]).run Try.prog w = .ok (.slice (some ⟨w.heap.size, 0, none⟩) 0 0) (w.alloc (.cells #[] 9)) := fun _ => by kernel_rfl
  have D1 := D.below bb
  have HD : Hid (ItO w g N N vb nm n rw f) := D
  clear bb A0 D
  go_enter Try.func26, Try.ntmps26
  go_wp2
  clear hV hbs
  go_loopw [3, 4, 13] (fun t u v wr => ∃ i : Nat, i ≤ N ∧ u = .int .i64 ((tot n i : Nat) : Int) ∧ v = .int .i64 (i : Int) ∧ tot n i ≤ 4000 ∧ (∀ j, j < i → tot n (j + 1) ≤ 4000 ∧ (∀ k, k < j → nm k ≠ nm j) ∧ RgOk (nm j) (n j) (rw j) (f j)) ∧ Gs w wr w.heap.size t i nm ∧ ItO wr g N N vb nm n rw f) (fun _ _ v _ => N - (intOf v).toNat)
  case atStart => exact ⟨0, Nat.zero_le _, rfl, rfl, Nat.zero_le _, fun j hj => by omega, G, D1⟩
  case round =>
    clear G D1
    obtain ⟨i, hi, rfl, rfl, ht, hall, G, D⟩ := hrel
    have HA : Hid (∀ j, j < i → tot n (j + 1) ≤ 4000 ∧ (∀ k, k < j → nm k ≠ nm j) ∧ RgOk (nm j) (n j) (rw j) (f j)) := hall
    clear hall
    obtain ⟨gs, cs, rfl, SS, gl, gB⟩ := G.open
    by_cases hlt : i < N
    · have hlt' : (i : Int) < (N : Int) := by omega
      obtain ⟨d0, d1, d2⟩ := D.at hlt
      have hni := hn i hlt
      have hni' : (n i : Int) ≤ 1048576 := by omega
      obtain ⟨V1, hV1, m1, bb1, -⟩ := boxed wr 46 #[.string (nm i), .slice (some ⟨vb i, 0, none⟩) (n i) (n i), .int .i64 (rw i)]
      obtain ⟨r1, hr1⟩ : ∃ r, wr.heap.size = r := ⟨_, rfl⟩
      rw [hr1] at m1
      obtain ⟨x0, x1, x2, -⟩ := m1.open3
      replace G := G.below bb1
      replace D := D.below bb1
      have S1 : Strs V1 gs 0 i nm := fun j hj => (bb1.cell (p := ⟨gs, 0 + j, none⟩) gl).trans (SS j hj)
      clear SS gl
      obtain ⟨T, hT⟩ : ∃ T, tot n (i + 1) = T := ⟨_, rfl⟩
      have hT' : ((tot n i : Nat) : Int) + (n i : Int) = (T : Int) := by have : tot n (i + 1) = tot n i + n i := rfl; omega
      have hTb : (T : Int) ≤ 2000000 := by omega
      have HT : Hid (tot n (i + 1) = T) := hT
      clear hT
      by_cases hT4 : 4000 < T
      · obtain rfl := no_of hb (fun k => by have := (k.2 i hlt).1; rw [HT.out] at this; omega)
        have hT5 : (4000 : Int) < (T : Int) := by omega
        have B := G.b
        clear G D
        go_wp2
        go_ret
        exact ⟨rfl, B⟩
      have hT5 : ¬ (4000 : Int) < (T : Int) := by omega
      obtain ⟨y1, hy1⟩ := bool_of (∃ j, j < i ∧ nm j = nm i)
      have C1 := contains_any (c := cs) (nm i) S1 (by omega) y1 hy1
      cases y1
      · obtain ⟨y2, hy2⟩ := bool_of (RgOk (nm i) (n i) (rw i) (f i))
        have R2 := right_any (c := n i) (nm i) (rw i) (D.own i hlt).2.strs (D.own i hlt).2.lt hni y2 hy2
        have HNo : Hid (∀ j, j < i → nm j ≠ nm i) := show ∀ j, j < i → nm j ≠ nm i from fun j hj e => iff_no hy1 ⟨j, hj, e⟩
        clear hy1
        go_wp2_with fail
        refine C1.mono ?_
        rintro e w2 ⟨rfl, rfl⟩
        clear C1
        go_wp2_with fail
        refine R2.mono ?_
        rintro e w3 ⟨rfl, b3⟩
        clear R2
        replace G := G.below b3
        replace D := D.below b3
        replace m1 := m1.below b3
        clear x0 x1 x2 S1 d0 d1 d2 b3 hV1 hr1 bb1
        obtain ⟨x0, x1, x2, -⟩ := m1.open3
        cases y2
        · obtain rfl := no_of hb (fun k => iff_no hy2 (k.2 i hlt).2.2)
          have B := G.b
          clear G D hy2
          go_wp2
          go_ret
          exact ⟨rfl, B⟩
        · have HR : Hid (∀ j, j < i + 1 → tot n (j + 1) ≤ 4000 ∧ (∀ k, k < j → nm k ≠ nm j) ∧ RgOk (nm j) (n j) (rw j) (f j)) := show ∀ j, j < i + 1 → tot n (j + 1) ≤ 4000 ∧ (∀ k, k < j → nm k ≠ nm j) ∧ RgOk (nm j) (n j) (rw j) (f j) from fun j hj => by
            by_cases e : j = i
            · subst e
              exact ⟨by rw [HT.out]; omega, HNo.out, hy2.1 rfl⟩
            · exact HA.out j (by omega)
          have H5 : Hid (((tot n (i + 1) : Nat) : Int) = (T : Int)) := by show _ = _; rw [HT.out]
          have H6 : Hid (tot n (i + 1) ≤ 4000) := by show _ ≤ _; rw [HT.out]; omega
          clear hy2 HA HNo HT hT'
          obtain ⟨V9, hV9, A9, b10, -⟩ := boxed w3 9 #[.string (nm i)]
          obtain ⟨g9, hg9⟩ : ∃ g, w3.heap.size = g := ⟨_, rfl⟩
          rw [hg9] at A9
          have G4 := G.below b10
          have D4 := D.below b10
          have hkk := G4.o3
          have hb2 : ∀ w, (Instr.buildSlice 35 1 #[(0, .string (nm i))]).run Try.prog w = .ok (.slice (some ⟨w.heap.size, 0, none⟩) 1 1) (w.alloc (.cells #[.string (nm i)] 9)) := fun _ => by kernel_rfl
          clear b10 G D
          go_wp2_with (at_builtin; refine wpList_append_own _ rfl _ _ _ rfl w.heap.size 9 i0 _ 1 16 Try.underlying35 hj0 hz0 hz1 hz2 rfl (by omega) (.slice (some ⟨gs, 0, none⟩) i cs) i (sCells nm i) rfl G4.own ⟨g9, 0, none⟩ 1 1 [.string (nm i)] rfl rfl (news1s A9) (by simp [Value.oneCell']) (by unfold maxLen; omega) (by omega) hkk ?_; intro v2 w16 hown2 hgrow2 hne2)
          have G5 := G4.grow hown2 hgrow2 (fun h => by have := hne2.1 h; simp at this)
          have D5 := HD.out.below G5.b
          exact ⟨⟨i + 1, by omega, by rw [H5.out], by go_num, H6.out, HR.out, G5, D5⟩, by simp [intOf]; omega⟩
      · obtain rfl := no_of hb (fun k => by
          obtain ⟨j, h1, h2⟩ := hy1.1 rfl
          exact (k.2 i hlt).2.1 j h1 h2)
        have B := G.b
        clear G D hy1
        go_wp2_with fail
        refine C1.mono ?_
        rintro e w2 ⟨rfl, rfl⟩
        go_wp2
        go_ret
        exact ⟨rfl, B⟩
    · have hlt' : ¬ (i : Int) < (N : Int) := by omega
      obtain rfl : i = N := by omega
      obtain rfl : b = true := hb.out.2 ⟨by omega, HA.out⟩
      have B := G.b
      clear G D
      go_wp2
      go_ret
      exact ⟨rfl, B⟩
end Go.Proofs.Ytdhfoekfejcceaa
