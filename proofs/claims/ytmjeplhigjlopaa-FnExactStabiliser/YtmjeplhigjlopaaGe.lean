/-
  Lists of operators taken over by the program, walked.
-/
import Derived.Test.YtmjeplhigjlopaaGd
namespace Go.Proofs.Ytmjeplhigjlopaa
open Go.RowKit

/-- Twelve cells. -/
def kc (k : Nat → Int) : List Value := [.int .i64 (k 0), .int .i64 (k 1), .int .i64 (k 2), .int .i64 (k 3), .int .i64 (k 4), .int .i64 (k 5), .int .i64 (k 6), .int .i64 (k 7), .int .i64 (k 8), .int .i64 (k 9), .int .i64 (k 10), .int .i64 (k 11)]
theorem kc_cat (f h : Nat → Int) : kc (cat 9 f h) = (opA f h).toList := rfl
/-- The cells of the first n operators. -/
def kCells (F : Nat → Nat → Int) : Nat → List Value
  | 0 => []
  | n + 1 => kCells F n ++ kc (F n)
theorem kCells_len (F : Nat → Nat → Int) (n : Nat) : (kCells F n).length = n * 12 := by
  induction n with
  | zero => rfl
  | succ n ih => simp [kCells, kc, ih]; omega
theorem kCells_congr {F G : Nat → Nat → Int} {n : Nat} (h : ∀ i, i < n → ∀ j, j < 12 → F i j = G i j) : kCells F n = kCells G n := by
  induction n with
  | zero => rfl
  | succ n ih =>
    unfold kCells
    rw [ih (fun i hi => h i (by omega))]
    simp only [kc, h n (by omega) 0 (by omega), h n (by omega) 1 (by omega), h n (by omega) 2 (by omega), h n (by omega) 3 (by omega), h n (by omega) 4 (by omega), h n (by omega) 5 (by omega), h n (by omega) 6 (by omega), h n (by omega) 7 (by omega), h n (by omega) 8 (by omega), h n (by omega) 9 (by omega), h n (by omega) 10 (by omega), h n (by omega) 11 (by omega)]
theorem kc_get (k : Nat → Int) (j : Nat) (hj : j < 12) : (kc k)[j]? = some (.int .i64 (k j)) := by
  rcases (by omega : j = 0 ∨ j = 1 ∨ j = 2 ∨ j = 3 ∨ j = 4 ∨ j = 5 ∨ j = 6 ∨ j = 7 ∨ j = 8 ∨ j = 9 ∨ j = 10 ∨ j = 11) with rfl | rfl | rfl | rfl | rfl | rfl | rfl | rfl | rfl | rfl | rfl | rfl <;> rfl
theorem kCells_get (F : Nat → Nat → Int) {n i j : Nat} (hi : i < n) (hj : j < 12) : (kCells F n)[i * 12 + j]? = some (.int .i64 (F i j)) := by
  induction n with
  | zero => omega
  | succ n ih =>
    unfold kCells
    have hl := kCells_len F n
    by_cases e : i = n
    · subst e
      rw [List.getElem?_append_right (by omega), hl, show i * 12 + j - i * 12 = j by omega]
      exact kc_get _ j hj
    · rw [List.getElem?_append_left (by omega)]
      exact ih (by omega)
/-- A list of operators of the program's own. -/
def Oprs (w : World) (base : Nat) (v : Value) (n : Nat) (F : Nat → Nat → Int) : Prop := w.ownsRow base 77 12 v n (kCells F n) ∧ v ≠ .slice none 0 0
theorem Oprs.below {w w' : World} {base : Nat} {v : Value} {n : Nat} {F : Nat → Nat → Int} (h : Oprs w base v n F) (hb : Below w.heap.size w w') : Oprs w' base v n F := ⟨own_below h.1 hb, h.2⟩
theorem Try.info77 : (Try.prog.info? 77).map (fun i => (i.zero, i.size, i.bytes)) = some (some (.agg (opA (fun _ => 0) (fun _ => 0))), 12, 96) := by kernel_rfl
theorem kc_one (k : Nat → Int) : ∀ u ∈ kc k, u.oneCell' = true := by
  intro u hu
  simp only [kc, List.mem_cons, List.not_mem_nil, or_false] at hu
  rcases hu with rfl | rfl | rfl | rfl | rfl | rfl | rfl | rfl | rfl | rfl | rfl | rfl <;> rfl
set_option maxRecDepth 100000 in
set_option maxHeartbeats 1600000 in
theorem operatorsOf_any {w : World} {g n c : Nat} {A : Nat → OpD} (hL : OpsL w g n A) (hn : n ≤ 192) :
    Calls Try.prog 41 #[.slice (some ⟨g, 0, none⟩) n c] w fun e w' => ((∃ v, e = .returned (.tuple #[v, .bool true]) ∧ Oprs w' w.heap.size v n (fun i => (A i).key) ∧ ∀ i, i < n → (A i).ok) ∨ (∃ v, e = .returned (.tuple #[v, .bool false]) ∧ ¬ ∀ i, i < n → (A i).ok)) ∧ Below w.heap.size w w' := by
  have hn' : (n : Int) ≤ 192 := by omega
  have hbs : ∀ w, (Instr.buildSlice 64 0 #[]).run Try.prog w = .ok (.slice (some ⟨w.heap.size, 0, none⟩) 0 0) (w.alloc (.cells #[] 77)) := fun _ => by kernel_rfl
  obtain ⟨i0, hi0, hz0, hz1, hz2⟩ := info_parts Try.info77
  obtain ⟨W1, hW1, a1, B, z1⟩ := boxed w 77 #[]
  have o0 : Hid (Oprs W1 w.heap.size (.slice (some ⟨w.heap.size, 0, none⟩) 0 0) 0 (fun i => (A i).key)) := ⟨⟨rfl, .inr ⟨w.heap.size, 0, #[], rfl, Nat.le_refl _, a1, Nat.le_refl _, Nat.zero_le _, rfl, rfl⟩⟩, ne_nil _ _ _⟩
  have HL := hL.below B
  clear a1 z1
  go_enter Try.func41, Try.ntmps41
  go_wp2
  clear hW1
  go_loopw [4, 12] (fun v s wr => ∃ k : Nat, k ≤ n ∧ s = .int .i64 k ∧ Hid (Oprs wr w.heap.size v k (fun i => (A i).key)) ∧ Hid (∀ i, i < k → (A i).ok) ∧ OpsL wr g n A ∧ Below w.heap.size w wr) (fun _ s _ => n - (intOf s).toNat)
  case atStart => exact ⟨0, Nat.zero_le _, rfl, o0, fun i hi => by omega, HL, B⟩
  case round =>
    clear o0 HL B
    obtain ⟨k, hk, rfl, own, hok, HL, B⟩ := hrel
    by_cases hlt : k < n
    · have hlt' : (k : Int) < (n : Int) := by omega
      obtain ⟨a, c1, b, d, e1, e2, s1, s2⟩ := HL.2 k hlt
      obtain ⟨N, hN⟩ : ∃ N, (A k).n = N := ⟨_, rfl⟩
      obtain ⟨K, hK⟩ : ∃ N, (A k).k = N := ⟨_, rfl⟩
      rw [hN] at e1 s1
      rw [hK] at e2 s2
      obtain ⟨X4, hX4, w4, hY4, a4, b4, y0, y1, y2, y3⟩ := boxed2 wr (.slice a N c1) (.slice b K d)
      have own4 : Hid (Oprs w4 w.heap.size u4 k (fun i => (A i).key)) := own.out.below b4
      have HL4 := HL.below b4
      have B4 := B.trans (b4.mono B.size)
      have t1 := s1.below b4
      have t2 := s2.below b4
      obtain ⟨d0, d1, f0, f1⟩ := a4.open2
      clear own B b4
      go_wp2_with fail
      refine (operatorOf_any c1 d t1 t2).mono ?_
      rintro e w5 ⟨rfl, b5⟩
      clear d0 d1 f0 f1 hX4 hY4 y0 y1 y2 y3 e1 e2
      have own5 := own4.out.below b5
      have HL5 := HL4.below b5
      have B5 := B4.trans (b5.mono B4.size)
      have hiff : isOp N (A k).f K (A k).h ↔ (A k).ok := by rw [← hN, ← hK]; exact Iff.rfl
      clear own4 HL4 B4 t1 t2 s1 s2 b5 a4
      by_cases ho : isOp N (A k).f K (A k).h
      · simp only [decide_eq_true ho]
        obtain ⟨rfl, rfl, -⟩ := id ho
        have etf : ∀ q : Nat → Int, tf 9 3 q = q := fun q => if_pos ⟨rfl, rfl⟩
        rw [etf, etf]
        have HO : Hid (∀ i, i < k + 1 → (A i).ok) := fun i hi => by
          by_cases e : i = k
          · rw [e]; exact hiff.1 ho
          · exact hok.out i (by omega)
        obtain ⟨F, hF⟩ : ∃ F, (A k).f = F := ⟨_, rfl⟩
        obtain ⟨H, hH⟩ : ∃ F, (A k).h = F := ⟨_, rfl⟩
        rw [hF, hH]
        have hkey : Hid ((A k).key = cat 9 F H) := by rw [← hF, ← hH]; rfl
        clear hiff ho etf hok hF hH hN hK
        obtain ⟨W6, hW6, a6, b6, -⟩ := boxed w5 77 (opA F H)
        obtain ⟨W7, hW7, a7, b7, -⟩ := boxed W6 77 (opA F H)
        have own7 : Hid (Oprs W7 w.heap.size u4 k (fun i => (A i).key)) := (own5.below b6).below b7
        have HL7 : Hid (OpsL W7 g n A) := (HL5.below b6).below b7
        have B7 : Hid (Below w.heap.size w W7) := (B5.trans (b6.mono B5.size)).trans (b7.mono (Nat.le_trans B5.size b6.size))
        clear own5 HL5 B5 b6 b7
        obtain ⟨⟨d0, d1, d2, d3, d4, d5, d6, d7, d8⟩, d9, d10, d11⟩ := a6.open12
        have hnw : ∀ j u, (kc (cat 9 F H))[j]? = some u → W7.cell? ((⟨W6.heap.size, 0, none⟩ : Addr).add j) = some u := by
          intro j u hu
          have h1 : (opA F H)[j]? = some u := by rw [kc_cat] at hu; simpa using hu
          have h2 := a7.cell j h1
          by_cases e : j = 0
          · subst e; simpa [Addr.add] using h2
          · simpa [Addr.add, e] using h2
        have hm1 : k + 1 ≤ maxLen := by unfold maxLen; omega
        have hm2 : (k + 1) * 96 ≤ 140737488355328 := by omega
        have hm3 : w.heap.size ≤ W7.heap.size := B7.out.size
        unfold opA at hW6 hW7 ⊢
        go_wp2_with (at_builtin; refine Hid.out (?_ : Hid _))
        refine (?_ : wpList _ _ _ _ _ _)
        refine wpList_append_own_at _ rfl _ _ _ rfl w.heap.size 77 i0 _ 12 96 Try.underlying64 hi0 hz0 hz1 hz2 rfl (by omega) u4 k (kCells (fun i => (A i).key) k) rfl own7.out.1 ⟨W6.heap.size, 0, none⟩ 1 1 (kc (cat 9 F H)) rfl rfl hnw (kc_one _) hm1 hm2 hm3 ?_
        intro v3 w8 hown3 hgrow3 hne3 hblk3
        have ho3 : Hid (Oprs w8 w.heap.size v3 (k + 1) (fun i => (A i).key)) := by
          refine ⟨?_, fun e => by have := (hne3.1 e).2; omega⟩
          show w8.ownsRow w.heap.size 77 12 v3 (k + 1) (kCells (fun i => (A i).key) k ++ kc (A k).key)
          rw [hkey.out]
          exact hown3
        have hge : Hid (∀ x, u4.ownBlock = some x → w.heap.size ≤ x) := fun x hx => ownBlock_ge own7.out.1 hx
        have B8 : Below w.heap.size w w8 := B7.out.grown hgrow3 hm3 (fun x hx => hge.out x hx)
        have HL8 : OpsL w8 g n A := hL.below B8
        clear hown3 hgrow3 hne3 hblk3 own7 HL7 B7 hnw hm1 hm2 hm3 d0 d1 d2 d3 d4 d5 d6 d7 d8 d9 d10 d11 a6 a7 hW6 hW7
        go_wp2
        exact ⟨⟨k + 1, by omega, by go_num, ho3, HO, HL8, B8⟩, by simp [intOf]; omega⟩
      · simp only [decide_eq_false ho]
        have HN : Hid (¬ ∀ i, i < n → (A i).ok) := fun h => ho (hiff.2 (h k hlt))
        clear hiff ho hok
        obtain ⟨M, hM⟩ : ∃ M, tf N K (A k).f = M := ⟨_, rfl⟩
        obtain ⟨T, hT⟩ : ∃ M, tf N K (A k).h = M := ⟨_, rfl⟩
        rw [hM, hT]
        unfold opA
        clear hM hT
        obtain ⟨W6, hW6, a6, b6, -⟩ := boxed w5 77 (opA M T)
        obtain ⟨W7, hW7, a7, b7, -⟩ := boxed W6 77 #[]
        have B7 : Hid (Below w.heap.size w W7) := (B5.trans (b6.mono B5.size)).trans (b7.mono (Nat.le_trans B5.size b6.size))
        clear B5 b6 b7 own5 HL5
        unfold opA at hW6
        go_wp2
        exact bodyPost_ret (v := .tuple #[.slice (some ⟨W6.heap.size, 0, none⟩) 0 0, .bool false]) (by simp [results, Try.results41, go_sem]) rfl ⟨.inr ⟨_, rfl, HN.out⟩, B7.out⟩
    · have hlt' : ¬ (k : Int) < (n : Int) := by omega
      obtain rfl : k = n := by omega
      go_wp2
      exact bodyPost_ret (v := .tuple #[u4, .bool true]) (by simp [results, Try.results41, go_sem]) rfl ⟨.inl ⟨_, rfl, own.out, hok.out⟩, B⟩
end Go.Proofs.Ytmjeplhigjlopaa
