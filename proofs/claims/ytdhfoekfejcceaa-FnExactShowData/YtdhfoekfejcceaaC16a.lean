/-
  The column of a name: by the program and by the specification: walked.
-/
import Derived.Test.YtdhfoekfejcceaaD16j
import Derived.Lib.BufferWrite
import Derived.Lib.UnsafeStr
import Derived.Laws.MakeOwn
import Derived.Deep.AppendLies
import Derived.Laws.IdiomStrings
namespace Go.Proofs.Ytdhfoekfejcceaa
open Go.RowKit

theorem infoBy : (Try.prog.info? 5).map (fun i => (i.zero, i.size, i.bytes)) = some (some (.int .u8 0), 1, 1) := by kernel_rfl
set_option maxRecDepth 100000 in
set_option maxHeartbeats 1000000 in
theorem cloneIn_any (s : ByteArray) (w : World) (hs : s.size ≤ 1000000) : Calls Try.prog 63 #[.string s] w fun e w' => e = .returned (.string s) ∧ Below w.heap.size w w' := by
  by_cases h0 : s.size = 0
  · obtain rfl : s = ⟨#[]⟩ := ByteArray.ext (Array.eq_empty_of_size_eq_zero h0)
    go_enter Try.func63, Try.ntmps63
    go_wp2
    go_ret
    exact ⟨rfl, Below.refl _ _⟩
  · obtain ⟨i0, hi0, hz0, hz1, hz2⟩ := info_parts infoBy
    have hsz : (Try.prog.info? 5).map (·.size) = some 1 := by rw [hi0]; simp [hz1]
    have hco : Try.prog.cellsOf 5 = 1 := by simp [Program.cellsOf, hi0, hz1]
    obtain ⟨M, hM⟩ : ∃ M, madeCells (Value.int .u8 0).cells (((s.size : Nat) : Int).toNat * i0.size) = M := ⟨_, rfl⟩
    have hMs : M.size = s.size := by rw [← hM, size_madeCells, hz1]; simp
    have mk : ∀ W : World, (Instr.makeSlice 55 (.int .i64 (s.size : Int)) (.int .i64 (s.size : Int))).run Try.prog W = .ok (.slice (some ⟨W.heap.size, 0, none⟩) s.size s.size) (W.alloc (.cells M 5)) := fun W => by
      have h := run_make (P := Try.prog) W 55 5 i0 (.int .u8 0) Try.underlying55 hi0 hz0 .i64 .i64 (s.size : Int) (s.size : Int) (by omega) (by omega) (by rw [hz2]; omega) (by omega)
      rw [hM] at h
      simpa using h
    clear hM
    have cp := Lib.run_copy_row_string (P := Try.prog) (w.alloc (.cells M 5)) 55 9 3 5 w.heap.size 0 s.size s.size s M 5 Try.underlying55 hsz (heap_alloc_new w _) (Nat.le_refl _) (by omega)
    obtain ⟨Y, hY⟩ : ∃ Y, (M.toList.take 0 ++ Lib.byteCells s.data.toList ++ M.toList.drop (0 + s.size)).toArray = Y := ⟨_, rfl⟩
    rw [hY] at cp
    have yl : Y.toList = Lib.byteCells s.data.toList := by
      rw [← hY, List.toList_toArray, List.take_zero, List.nil_append, List.drop_of_length_le (by rw [Array.length_toList]; omega), List.append_nil]
    have ys : Y.size = s.size := by rw [← Array.length_toList, yl, Lib.byteCells_length, ← Lib.size_eq]
    have gY : ((w.alloc (.cells M 5)).setRow w.heap.size Y).heap[w.heap.size]? = some (.cells Y 5 (0, 0)) := setRow_heap _ _ M _ 5 (0, 0) (heap_alloc_new w _)
    have ne : s.data.toList ≠ [] := fun e => h0 (by rw [Lib.size_eq, e]; rfl)
    have us := Lib.run_unsafeString_row (P := Try.prog) ((w.alloc (.cells M 5)).setRow w.heap.size Y) 82 3 9 5 Try.underlying82 hco w.heap.size Y.size (by unfold World.shape?; rw [gY]) s.data.toList ne (by rw [← Lib.size_eq]; omega) (by rw [← Lib.size_eq]; omega)
      (fun j x hx => Lib.cells_of_row gY Y.size j _ (by rw [List.take_of_length_le (by rw [Array.length_toList]; exact Nat.le_refl _), yl]; simp [Lib.byteCells, hx]))
    rw [← Lib.size_eq] at us
    clear hY
    go_enter Try.func63, Try.ntmps63
    go_wp2
    go_ret
    have b2 : Below w.heap.size (w.alloc (.cells M 5)) ((w.alloc (.cells M 5)).setRow w.heap.size Y) := ⟨rfl, rfl, rfl, by simp, fun k hk => setRow_other _ _ _ _ (by omega)⟩
    exact ⟨rfl, Lib.below_freeze ((below_alloc _ _).trans b2) (p := ⟨w.heap.size, 0, none⟩) (Nat.le_refl _) _⟩
theorem clone_any (s : ByteArray) (w : World) (hs : s.size ≤ 1000000) : Calls Try.prog 54 #[.string s] w fun e w' => e = .returned (.string s) ∧ Below w.heap.size w w' := by
  go_enter Try.func54, Try.ntmps54
  go_wp2_with (go_at_call 63; refine (cloneIn_any s _ hs).mono ?_; rintro e w2 ⟨rfl, b2⟩)
  go_ret
  exact ⟨rfl, b2⟩

/-- A list of texts of its own memory, in a block from lo up to hi. -/
def SAr (w : World) (lo hi : Nat) (v : Value) (n : Nat) (f : Nat → ByteArray) : Prop := ∃ g c, v = .slice (some ⟨g, 0, none⟩) n c ∧ lo ≤ g ∧ g < hi ∧ n ≤ c ∧ MadeS w g c n f
theorem SAr.below {w w' : World} {lo hi : Nat} {v : Value} {n : Nat} {f : Nat → ByteArray} (h : SAr w lo hi v n f) (hb : Below w.heap.size w w') : SAr w' lo hi v n f := by
  obtain ⟨g, c, e, h1, h2, h3, h4⟩ := h
  exact ⟨g, c, e, h1, h2, h3, h4.below hb⟩
theorem SAr.turn {w w' : World} {lo hi a b : Nat} {v : Value} {n : Nat} {f : Nat → ByteArray} (h : SAr w a b v n f) (ht : Turn lo hi w w') (hd : b ≤ lo ∨ hi ≤ a) : SAr w' a b v n f := by
  obtain ⟨g, c, e, h1, h2, h3, cur, h4, h5⟩ := h
  exact ⟨g, c, e, h1, h2, h3, cur, (ht.block g h4.lt (by omega)).trans h4, h5⟩
theorem SAr.wide {w : World} {lo hi lo' hi' : Nat} {v : Value} {n : Nat} {f : Nat → ByteArray} (h : SAr w lo hi v n f) (h1 : lo' ≤ lo) (h2 : hi ≤ hi') : SAr w lo' hi' v n f := by
  obtain ⟨g, c, e, a1, a2, a3⟩ := h
  exact ⟨g, c, e, by omega, by omega, a3⟩
theorem MadeS.strsN {w : World} {g n k : Nat} {f : Nat → ByteArray} (h : MadeS w g n k f) : Strs w g 0 k f := by
  obtain ⟨cur, h1, h2, h3⟩ := h
  intro i hi
  rw [Nat.zero_add]
  exact h1.cell i (h3 i hi)
theorem eqSAr_true {w : World} {l1 h1 l2 h2 n : Nat} {v1 v2 : Value} {f : Nat → ByteArray} (k1 : SAr w l1 h1 v1 n f) (k2 : SAr w l2 h2 v2 n f) (hn : n ≤ 1048576) :
    Calls Try.prog 15 #[v1, v2] w fun e w' => e = .returned (.bool true) ∧ Below w.heap.size w w' := by
  obtain ⟨g1, c1, rfl, -, -, -, m1⟩ := k1
  obtain ⟨g2, c2, rfl, -, -, -, m2⟩ := k2
  exact eqStringS_true m1.strsN m2.strsN m1.lt m2.lt hn
theorem sar_none {w w1 W : World} {F : Nat → ByteArray} (hW : w1.alloc (.cells #[] 9) = W) (hb : Below w.heap.size w w1) : SAr W w.heap.size W.heap.size (.slice (some ⟨w1.heap.size, 0, none⟩) 0 0) 0 F := by
  subst hW
  exact ⟨w1.heap.size, 0, rfl, hb.size, by simp, Nat.le_refl _, #[], at_new _ _ _, rfl, fun i hi => by omega⟩
theorem sar_own {w' : World} {B n : Nat} {v : Value} {f : Nat → ByteArray} (h : w'.ownsRow B 9 1 v n (sCells f n)) (hv : v ≠ .slice none 0 0) : SAr w' B w'.heap.size v n f := by
  rcases h.2 with ⟨h1, _⟩ | ⟨g, c, cur, rfl, hb, hh, hc1, hc2, hsz, ht⟩
  · exact absurd h1 hv
  · refine ⟨g, c, rfl, hb, (Array.getElem?_eq_some_iff.1 hh).1, hc1, cur, hh, by simpa using hsz, fun i hi => ?_⟩
    have a1 := sCells_at f hi
    rw [← ht, List.getElem?_take_of_lt (by omega)] at a1
    simpa using a1
set_option maxRecDepth 100000 in
set_option maxHeartbeats 1600000 in
theorem clones_any {w : World} {g n c : Nat} {f : Nat → ByteArray} (hS : Strs w g 0 n f) (hg : g < w.heap.size) (hn : n ≤ 1048576) (hf : ∀ i, i < n → (f i).size ≤ 1000000) :
    Calls Try.prog 34 #[.slice (some ⟨g, 0, none⟩) n c] w fun e w' => ∃ v, e = .returned v ∧ SAr w' w.heap.size w'.heap.size v n f ∧ Below w.heap.size w w' := by
  have hn' : (n : Int) ≤ 1048576 := by omega
  obtain ⟨i0, hj0, hz0, hz1, hz2⟩ := info_parts infoStr
  obtain ⟨V, hV, A0, bb, -⟩ := boxed w 9 #[]
  have G : Gs w V w.heap.size (.slice (some ⟨w.heap.size, 0, none⟩) 0 0) 0 f := ⟨⟨rfl, .inr ⟨w.heap.size, 0, #[], rfl, Nat.le_refl _, A0, Nat.le_refl _, Nat.zero_le _, rfl, rfl⟩⟩, (fun h => by cases h), bb, Nat.le_refl _, bb.size⟩
  have hbs : ∀ w, (Instr.buildSlice 35 0 #[]).run Try.prog w = .ok (.slice (some ⟨w.heap.size, 0, none⟩) 0 0) (w.alloc (.cells #[] 9)) := fun _ => by kernel_rfl
  have HS : Hid (Strs w g 0 n f) := hS
  clear bb A0 hS
  go_enter Try.func34, Try.ntmps34
  go_wp2
  clear hV hbs
  go_loopw [3, 9] (fun t u wr => ∃ i : Nat, i ≤ n ∧ u = .int .i64 (i : Int) ∧ Gs w wr w.heap.size t i f) (fun _ u _ => n - (intOf u).toNat)
  case atStart => exact ⟨0, Nat.zero_le _, rfl, G⟩
  case round =>
    clear G
    obtain ⟨i, hi, rfl, G⟩ := hrel
    obtain ⟨gs, cs, rfl, -, -, -⟩ := G.open
    by_cases hlt : i < n
    · have hlt' : (i : Int) < (n : Int) := by omega
      have d0 := (G.b.cell (p := ⟨g, 0 + i, none⟩) hg).trans (HS.out i hlt)
      rw [Nat.zero_add] at d0
      have CL := fun w => clone_any (f i) w (hf i hlt)
      go_wp2_with fail
      refine (CL _).mono ?_
      rintro e w2 ⟨rfl, b2⟩
      replace G := G.below b2
      clear b2 CL d0
      obtain ⟨V9, hV9, A9, b10, -⟩ := boxed w2 9 #[.string (f i)]
      obtain ⟨g9, hg9⟩ : ∃ g, w2.heap.size = g := ⟨_, rfl⟩
      rw [hg9] at A9
      have G4 := G.below b10
      have hkk := G4.o3
      have hb2 : ∀ w, (Instr.buildSlice 35 1 #[(0, .string (f i))]).run Try.prog w = .ok (.slice (some ⟨w.heap.size, 0, none⟩) 1 1) (w.alloc (.cells #[.string (f i)] 9)) := fun _ => by kernel_rfl
      clear b10 G
      go_wp2_with (at_builtin; refine wpList_append_own _ rfl _ _ _ rfl w.heap.size 9 i0 _ 1 16 Try.underlying35 hj0 hz0 hz1 hz2 rfl (by omega) (.slice (some ⟨gs, 0, none⟩) i cs) i (sCells f i) rfl G4.own ⟨g9, 0, none⟩ 1 1 [.string (f i)] rfl rfl (news1s A9) (by simp [Value.oneCell']) (by unfold maxLen; omega) (by omega) hkk ?_; intro v2 w16 hown2 hgrow2 hne2)
      have G5 := G4.grow hown2 hgrow2 (fun h => by have := hne2.1 h; simp at this)
      exact ⟨⟨i + 1, by omega, by go_num, G5⟩, by simp [intOf]; omega⟩
    · have hlt' : ¬ (i : Int) < (n : Int) := by omega
      obtain rfl : i = n := by omega
      go_wp2
      go_ret
      exact ⟨_, rfl, sar_own G.own G.nn, G.b⟩
/-- What is told of a name. -/
def ClA (N : Nat) (nm : Nat → ByteArray) (n : Nat → Nat) (f : Nat → Nat → ByteArray) (ok : Prop) (x : ByteArray) (m : Nat) (F : Nat → ByteArray) (R : Bool) : Prop :=
  (ok ∧ ∃ i, i < N ∧ nm i = x ∧ m = n i ∧ F = f i ∧ R = true) ∨ ((ok → ∀ i, i < N → nm i ≠ x) ∧ m = 0 ∧ R = false)
theorem cla_is (N : Nat) (nm : Nat → ByteArray) (n : Nat → Nat) (f : Nat → Nat → ByteArray) (ok : Prop) (x : ByteArray) : ∃ m F R, ClA N nm n f ok x m F R := by
  by_cases h : ok ∧ ∃ i, i < N ∧ nm i = x
  · obtain ⟨h0, i, h1, h2⟩ := h
    exact ⟨_, _, _, .inl ⟨h0, i, h1, h2, rfl, rfl, rfl⟩⟩
  · exact ⟨0, fun _ => ByteArray.empty, false, .inr ⟨fun k i h1 h2 => h ⟨k, i, h1, h2⟩, rfl, rfl⟩⟩
def ClP (w : World) (m : Nat) (F : Nat → ByteArray) (R : Bool) (e : Ending) (w' : World) : Prop := ∃ v, e = .returned (.tuple #[v, .bool R]) ∧ SAr w' w.heap.size w'.heap.size v m F ∧ Below w.heap.size w w'
set_option maxRecDepth 100000 in
set_option maxHeartbeats 3200000 in
theorem implCol_any {w : World} {g N h M m : Nat} {s x : ByteArray} {vb : Nat → Nat} {nm : Nat → ByteArray} {n : Nat → Nat} {rw : Nat → Int} {f : Nat → Nat → ByteArray} {lp : Nat → Int} {F : Nat → ByteArray} {R : Bool} (D : DaO w g N h M vb nm n rw f lp) (hN : N ≤ 1048576) (hn : ∀ i, i < N → n i ≤ 1048576) (hM : M ≤ 1048576) (hl64 : ∀ j, j < M → -9223372036854775808 ≤ lp j ∧ lp j ≤ 9223372036854775807) (hA : Hid (ClA N nm n f (DOk s N M nm n rw f lp) x m F R)) :
    Calls Try.prog 14 #[dV s g N h M, .string x] w (ClP w m F R) := by
  obtain ⟨b, hb⟩ := bool_of (DOk s N M nm n rw f lp)
  have HB : Hid (b = true ↔ DOk s N M nm n rw f lp) := hb
  clear hb
  have HE : dV s g N h M = .agg #[.string s, .slice (some ⟨g, 0, none⟩) N N, .slice (some ⟨h, 0, none⟩) M M] := rfl
  obtain ⟨W1, hW1, a1, b1, -⟩ := boxed w 30 #[.string s, .slice (some ⟨g, 0, none⟩) N N, .slice (some ⟨h, 0, none⟩) M M]
  obtain ⟨q1, hq1⟩ : ∃ q, w.heap.size = q := ⟨_, rfl⟩
  rw [hq1] at a1
  have D1 := D.below b1
  have HD : Hid (DaO w g N h M vb nm n rw f lp) := D
  clear D
  have hN' : (N : Int) ≤ 1048576 := by omega
  have hbs : ∀ w, (Instr.buildSlice 35 0 #[]).run Try.prog w = .ok (.slice (some ⟨w.heap.size, 0, none⟩) 0 0) (w.alloc (.cells #[] 9)) := fun _ => by kernel_rfl
  obtain ⟨c0, c1, c2, -⟩ := a1.open3
  rw [HE]
  go_enter Try.func14, Try.ntmps14
  go_wp2_with fail
  rw [← HE]
  refine (implOk_any D1 hN hn hM hl64 b HB).mono ?_
  rintro e w2 ⟨rfl, b2⟩
  rw [HE]
  replace a1 := a1.below b2
  have B := b1.trans (b2.mono b1.size)
  clear c0 c1 c2 hW1 hq1 b1 b2 D1
  obtain ⟨c0, c1, c2, -⟩ := a1.open3
  cases b
  · obtain ⟨rfl, rfl⟩ : m = 0 ∧ R = false := by
      rcases hA.out with ⟨k, -⟩ | ⟨-, k⟩
      · exact absurd k (iff_no HB.out)
      · exact k
    obtain ⟨W3, hW3, -, b3, -⟩ := boxed w2 9 #[]
    have HS := sar_none (F := F) hW3 B
    clear HB hA
    go_wp2
    exact bodyPost_ret (v := .tuple #[.slice (some ⟨w2.heap.size, 0, none⟩) 0 0, .bool false]) (by simp [results, Try.results14, go_sem]) rfl ⟨_, rfl, HS, B.trans (b3.mono B.size)⟩
  have OK : Hid (DOk s N M nm n rw f lp) := HB.out.1 rfl
  clear HB
  go_wp2
  clear c0 c1 c2
  go_loopw [15] (fun u wr => ∃ i : Nat, i ≤ N ∧ u = .int .i64 (i : Int) ∧ (∀ j, j < i → nm j ≠ x) ∧ Below w.heap.size w wr) (fun u _ => N - (intOf u).toNat)
  case atStart => exact ⟨0, Nat.zero_le _, rfl, (fun j hj => by omega), B⟩
  case round =>
    clear B a1
    obtain ⟨i, hi, rfl, hall, B⟩ := hrel
    have HA : Hid (∀ j, j < i → nm j ≠ x) := hall
    clear hall
    by_cases hlt : i < N
    · have hlt' : (i : Int) < (N : Int) := by omega
      have D := HD.out.below B
      obtain ⟨d0, d1, d2⟩ := D.it.at hlt
      obtain ⟨V1, hV1, m1, bb1, -⟩ := boxed wr 46 #[.string (nm i), .slice (some ⟨vb i, 0, none⟩) (n i) (n i), .int .i64 (rw i)]
      obtain ⟨r1, hr1⟩ : ∃ r, wr.heap.size = r := ⟨_, rfl⟩
      rw [hr1] at m1
      obtain ⟨x0, x1, x2, -⟩ := m1.open3
      replace D := D.below bb1
      replace B := B.trans (bb1.mono B.size)
      clear bb1
      by_cases e : nm i = x
      · obtain ⟨rfl, rfl, rfl⟩ : m = n i ∧ F = f i ∧ R = true := by
          rcases hA.out with ⟨-, j, h1, h2, h3, h4, h5⟩ | ⟨k, -⟩
          · have hij : j = i := by
              rcases Nat.lt_trichotomy j i with k | k | k
              · exact absurd h2 (HA.out j k)
              · exact k
              · exact absurd (e.trans h2.symm) ((OK.out.2.2.1 j h1).2.2.1 i k)
            subst hij
            exact ⟨h3, h4, h5⟩
          · exact absurd e (k OK.out i hlt)
        have CL := clones_any (c := n i) (D.it.own i hlt).2.strs (D.it.own i hlt).2.lt (hn i hlt) (fun j hj => by have := ((OK.out.2.2.1 i hlt).2.2.2 j hj).1; omega)
        rw [e] at d0 x0
        have hbe := beq_self_eq_true x.toList
        rw [e] at hV1
        clear e hA HA D OK
        go_wp2_with fail
        refine CL.mono ?_
        rintro e w4 ⟨v, rfl, SA, b4⟩
        obtain ⟨g4, c4, rfl, p1, p2⟩ := SA
        have B4 := B.trans (b4.mono B.size)
        have SA2 : SAr w4 w.heap.size w4.heap.size (.slice (some ⟨g4, 0, none⟩) (n i) c4) (n i) (f i) := ⟨g4, c4, rfl, Nat.le_trans B.size p1, p2⟩
        go_wp2
        exact bodyPost_ret (v := .tuple #[.slice (some ⟨g4, 0, none⟩) (n i) c4, .bool true]) (by simp [results, Try.results14, go_sem]) rfl ⟨_, rfl, SA2, B4⟩
      · have hbe := (Go.Lib.bytes_beq_false_iff (nm i) x).2 e
        have He : Hid (∀ j, j < i + 1 → nm j ≠ x) := show ∀ j, j < i + 1 → nm j ≠ x from fun j hj => by
          by_cases ej : j = i
          · rw [ej]; exact e
          · exact HA.out j (by omega)
        clear e HA D
        go_wp2
        exact ⟨⟨i + 1, by omega, by go_num, He.out, B⟩, by simp [intOf]; omega⟩
    · have hlt' : ¬ (i : Int) < (N : Int) := by omega
      obtain rfl : i = N := by omega
      obtain ⟨rfl, rfl⟩ : m = 0 ∧ R = false := by
        rcases hA.out with ⟨-, j, h1, h2, -⟩ | ⟨-, k⟩
        · exact absurd h2 (HA.out j h1)
        · exact k
      obtain ⟨W3, hW3, -, b3, -⟩ := boxed wr 9 #[]
      have HS := sar_none (F := F) hW3 B
      clear hA HA
      go_wp2
      exact bodyPost_ret (v := .tuple #[.slice (some ⟨wr.heap.size, 0, none⟩) 0 0, .bool false]) (by simp [results, Try.results14, go_sem]) rfl ⟨_, rfl, HS, B.trans (b3.mono B.size)⟩
theorem sCells_one (f : Nat → ByteArray) (n : Nat) : ∀ u ∈ sCells f n, u.oneCell' = true := by
  induction n with
  | zero => intro u hu; cases hu
  | succ n ih =>
    intro u hu
    unfold sCells at hu
    rcases List.mem_append.1 hu with h | h
    · exact ih u h
    · simp at h; subst h; rfl
theorem strs_news {w : World} {b n : Nat} {f : Nat → ByteArray} (h : Strs w b 0 n f) : ∀ j u, (sCells f n)[j]? = some u → w.cell? ((⟨b, 0, none⟩ : Addr).add j) = some u := by
  intro j u hu
  have hj : j < n := by
    have := (List.getElem?_eq_some_iff.1 hu).1
    rwa [sCells_len] at this
  rw [sCells_at f hj] at hu
  cases hu
  have := h j hj
  by_cases e : j = 0 <;> simpa [Addr.add, e] using this
set_option maxRecDepth 100000 in
set_option maxHeartbeats 3200000 in
theorem specCol_any {w : World} {g N h M m : Nat} {s x : ByteArray} {vb : Nat → Nat} {nm : Nat → ByteArray} {n : Nat → Nat} {rw : Nat → Int} {f : Nat → Nat → ByteArray} {lp : Nat → Int} {F : Nat → ByteArray} {R : Bool} (D : DaO w g N h M vb nm n rw f lp) (hN : N ≤ 1048576) (hn : ∀ i, i < N → n i ≤ 1048576) (hM : M ≤ 1048576) (hl64 : ∀ j, j < M → -9223372036854775808 ≤ lp j ∧ lp j ≤ 9223372036854775807) (hA : Hid (ClA N nm n f (DOk s N M nm n rw f lp) x m F R)) :
    Calls Try.prog 13 #[dV s g N h M, .string x] w (ClP w m F R) := by
  obtain ⟨b, hb⟩ := bool_of (DOk s N M nm n rw f lp)
  have HB : Hid (b = true ↔ DOk s N M nm n rw f lp) := hb
  clear hb
  have HE : dV s g N h M = .agg #[.string s, .slice (some ⟨g, 0, none⟩) N N, .slice (some ⟨h, 0, none⟩) M M] := rfl
  obtain ⟨W1, hW1, a1, b1, -⟩ := boxed w 30 #[.string s, .slice (some ⟨g, 0, none⟩) N N, .slice (some ⟨h, 0, none⟩) M M]
  obtain ⟨q1, hq1⟩ : ∃ q, w.heap.size = q := ⟨_, rfl⟩
  rw [hq1] at a1
  have D1 := D.below b1
  have HD : Hid (DaO w g N h M vb nm n rw f lp) := D
  clear D
  have hN' : (N : Int) ≤ 1048576 := by omega
  have hbs : ∀ w, (Instr.buildSlice 35 0 #[]).run Try.prog w = .ok (.slice (some ⟨w.heap.size, 0, none⟩) 0 0) (w.alloc (.cells #[] 9)) := fun _ => by kernel_rfl
  obtain ⟨c0, c1, c2, -⟩ := a1.open3
  rw [HE]
  go_enter Try.func13, Try.ntmps13
  go_wp2_with fail
  rw [← HE]
  refine (specOk_any D1 hN hn hM hl64 b HB).mono ?_
  rintro e w2 ⟨rfl, b2⟩
  rw [HE]
  replace a1 := a1.below b2
  have B := b1.trans (b2.mono b1.size)
  clear c0 c1 c2 hW1 hq1 b1 b2 D1
  obtain ⟨c0, c1, c2, -⟩ := a1.open3
  cases b
  · obtain ⟨rfl, rfl⟩ : m = 0 ∧ R = false := by
      rcases hA.out with ⟨k, -⟩ | ⟨-, k⟩
      · exact absurd k (iff_no HB.out)
      · exact k
    obtain ⟨W3, hW3, -, b3, -⟩ := boxed w2 9 #[]
    have HS := sar_none (F := F) hW3 B
    clear HB hA
    go_wp2
    exact bodyPost_ret (v := .tuple #[.slice (some ⟨w2.heap.size, 0, none⟩) 0 0, .bool false]) (by simp [results, Try.results13, go_sem]) rfl ⟨_, rfl, HS, B.trans (b3.mono B.size)⟩
  have OK : Hid (DOk s N M nm n rw f lp) := HB.out.1 rfl
  clear HB
  go_wp2
  clear c0 c1 c2
  go_loopw [6] (fun u wr => ∃ i : Nat, i ≤ N ∧ u = .int .i64 (i : Int) ∧ (∀ j, j < i → nm j ≠ x) ∧ At 30 wr q1 #[.string s, .slice (some ⟨g, 0, none⟩) N N, .slice (some ⟨h, 0, none⟩) M M] ∧ Below w.heap.size w wr) (fun u _ => N - (intOf u).toNat)
  case atStart => exact ⟨0, Nat.zero_le _, rfl, (fun j hj => by omega), a1, B⟩
  case round =>
    clear B a1
    obtain ⟨i, hi, rfl, hall, A1, B⟩ := hrel
    obtain ⟨c0, c1, c2, -⟩ := A1.open3
    have HA : Hid (∀ j, j < i → nm j ≠ x) := hall
    clear hall
    by_cases hlt : i < N
    · have hlt' : (i : Int) < (N : Int) := by omega
      have D := HD.out.below B
      obtain ⟨d0, d1, d2⟩ := D.it.at hlt
      by_cases e : nm i = x
      · obtain ⟨rfl, rfl, rfl⟩ : m = n i ∧ F = f i ∧ R = true := by
          rcases hA.out with ⟨-, j, h1, h2, h3, h4, h5⟩ | ⟨k, -⟩
          · have hij : j = i := by
              rcases Nat.lt_trichotomy j i with k | k | k
              · exact absurd h2 (HA.out j k)
              · exact k
              · exact absurd (e.trans h2.symm) ((OK.out.2.2.1 j h1).2.2.1 i k)
            subst hij
            exact ⟨h3, h4, h5⟩
          · exact absurd e (k OK.out i hlt)
        rw [e] at d0
        have hbe := beq_self_eq_true x.toList
        obtain ⟨i0, hj0, hz0, hz1, hz2⟩ := info_parts infoStr
        have hni := hn i hlt
        obtain ⟨V, hV, A0, bb, -⟩ := boxed wr 9 #[]
        obtain ⟨q9, hq9⟩ : ∃ q, wr.heap.size = q := ⟨_, rfl⟩
        rw [hq9] at A0
        have hwq : w.heap.size ≤ q9 := by rw [← hq9]; exact B.size
        have o0 : V.ownsRow w.heap.size 9 1 (.slice (some ⟨q9, 0, none⟩) 0 0) 0 [] := ⟨rfl, .inr ⟨q9, 0, #[], rfl, hwq, A0, Nat.le_refl _, Nat.zero_le _, rfl, rfl⟩⟩
        have N5 := strs_news ((D.it.below bb).own i hlt).2.strs
        replace B := B.trans (bb.mono B.size)
        have A2 := A1.below bb
        obtain ⟨k0, k1, k2, -⟩ := A2.open3
        obtain ⟨z0, z1, z2⟩ := (D.it.below bb).at hlt
        have hkk := B.size
        clear e hA HA D OK bb A0
        go_wp2_with (at_builtin; refine wpList_append_own _ rfl _ _ _ rfl w.heap.size 9 i0 _ 1 16 Try.underlying35 hj0 hz0 hz1 hz2 rfl (by omega) (.slice (some ⟨q9, 0, none⟩) 0 0) 0 [] rfl o0 ⟨vb i, 0, none⟩ (n i) (n i) (sCells (f i) (n i)) rfl (by rw [sCells_len, Nat.mul_one]) N5 (sCells_one _ _) (by unfold maxLen; omega) (by omega) hkk ?_; intro v2 w2 hown2 hgrow2 hne2)
        simp only [Nat.zero_add, List.nil_append] at hown2
        have B4 : Below w.heap.size w w2 := B.grown hgrow2 hkk (fun k hk => by cases hk; exact hwq)
        have SA := sar_own hown2 (fun h => by have := hne2.1 h; simp at this)
        obtain ⟨g4, c4, rfl, p1, p2⟩ := SA
        exact bodyPost_ret (v := .tuple #[.slice (some ⟨g4, 0, none⟩) (n i) c4, .bool true]) (by simp [results, Try.results13, go_sem]) rfl ⟨_, rfl, ⟨g4, c4, rfl, p1, p2⟩, B4⟩
      · have hbe := (Go.Lib.bytes_beq_false_iff (nm i) x).2 e
        have He : Hid (∀ j, j < i + 1 → nm j ≠ x) := show ∀ j, j < i + 1 → nm j ≠ x from fun j hj => by
          by_cases ej : j = i
          · rw [ej]; exact e
          · exact HA.out j (by omega)
        clear e HA D
        go_wp2
        exact ⟨⟨i + 1, by omega, by go_num, He.out, A1, B⟩, by simp [intOf]; omega⟩
    · have hlt' : ¬ (i : Int) < (N : Int) := by omega
      obtain rfl : i = N := by omega
      obtain ⟨rfl, rfl⟩ : m = 0 ∧ R = false := by
        rcases hA.out with ⟨-, j, h1, h2, -⟩ | ⟨-, k⟩
        · exact absurd h2 (HA.out j h1)
        · exact k
      obtain ⟨W3, hW3, -, b3, -⟩ := boxed wr 9 #[]
      have HS := sar_none (F := F) hW3 B
      clear hA HA
      go_wp2
      exact bodyPost_ret (v := .tuple #[.slice (some ⟨wr.heap.size, 0, none⟩) 0 0, .bool false]) (by simp [results, Try.results13, go_sem]) rfl ⟨_, rfl, HS, B.trans (b3.mono B.size)⟩
end Go.Proofs.Ytdhfoekfejcceaa
