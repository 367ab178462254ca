/-
  A group and a group within it, drawn: walked.
-/
import Derived.Test.YtpolnkjmojofoaaNL
import Derived.Test.YtpolnkjmojofoaaNI
namespace Go.Proofs.Ytpolnkjmojofoaa
open Go.RowKit

/-- Two groups handed out. -/
def CosG (w : World) (e : Ending) (w' : World) : Prop :=
  ∃ (g n c : Nat) (A : Nat → OpD) (h m d : Nat) (C : Nat → OpD), e = .returned (.tuple #[.slice (some ⟨g, 0, none⟩) n c, .slice (some ⟨h, 0, none⟩) m d]) ∧ n ≤ 193 ∧ m ≤ 193 ∧ OpsL w' g n A ∧ OpsL w' h m C ∧ (∀ i, i < n → (A i).n ≤ 9 ∧ (A i).k ≤ 9) ∧ (∀ i, i < m → (C i).n ≤ 9 ∧ (C i).k ≤ 9) ∧ Below w.heap.size w w'
set_option maxRecDepth 100000 in
set_option maxHeartbeats 3000000 in
theorem drawCosets_any {w : World} {a : Option Addr} {len cap : Nat} (hr : Row w w.heap.size a len) :
    Calls Try.prog 14 #[.slice a len cap] w (CosG w) := by
  have hbs : ∀ w, (Instr.buildSlice 24 0 #[]).run Try.prog w = .ok (.slice (some ⟨w.heap.size, 0, none⟩) 0 0) (w.alloc (.cells #[] 33)) := fun _ => by kernel_rfl
  go_enter Try.func14, Try.ntmps14
  go_wp2_with fail
  refine (new_any hr).mono ?_
  rintro e w2 ⟨rfl, b2, hc⟩
  obtain ⟨p, hp⟩ : ∃ q, w.heap.size = q := ⟨_, rfl⟩
  have HPP : Hid (w.heap.size = p) := hp
  have HB2 : Hid (Below w.heap.size w w2) := b2
  rw [hp] at hc ⊢
  have hpl : p < w2.heap.size := hc.lt
  clear hr b2 hp
  go_wp2_with fail
  refine (draw4Any_dr hc).mono ?_
  rintro e w3 ⟨g, n, c, A, rfl, hn, -, D3, K, Z⟩
  have HK := hid_of K
  have HZ := hid_of Z
  clear K Z hc
  obtain ⟨W4, hW4, a4, b4, -⟩ := boxed w3 33 #[]
  obtain ⟨g0, hg0⟩ : ∃ q, w3.heap.size = q := ⟨_, rfl⟩
  rw [hg0] at a4
  have hg0p : p < g0 := by have := D3.1.size; omega
  have HU4 := hid_of (Upon.below (lo := w2.heap.size) b4)
  have D4 := D3.below b4
  have H0 : Hid (∀ W, (∀ w'', Kept p W4 W → Kept p W w'' → OpsL w'' g0 0 (fun _ => oneD))) := fun W w'' k1 k2 => ⟨Nat.lt_of_lt_of_le a4.lt (Nat.le_trans k1.size k2.size), fun i hi => by omega⟩
  have HL0 : Hid (g0 < W4.heap.size) := a4.lt
  clear D3 b4 a4 H0
  by_cases h0 : n = 0
  · subst h0
    have HM : Hid (∀ w'', Kept p W4 w'' → OpsL w'' g0 0 (fun _ => oneD)) := fun w'' k => ⟨Nat.lt_of_lt_of_le HL0.out k.size, fun i hi => by omega⟩
    have HU := HU4
    have D := D4
    have hm : 0 ≤ 193 := by omega
    have HY : Hid (∀ i, i < 0 → ((fun _ => oneD) i : OpD).n ≤ 9 ∧ ((fun _ => oneD) i : OpD).k ≤ 9) := fun i hi => by omega
    clear HL0 HU4 D4
    go_wp2_with fail
    refine (once_dr (Dr.start D.2) 6 (by omega) (by omega)).mono ?_
    rintro e wb ⟨b2, rfl, Db⟩
    have HLb := hid_of (HM.out wb Db.1)
    have HUb := hid_of (HU.out.trans (Upon.of_kept Db.1 hpl))
    have Db' := Db.from D.1
    clear HM HU D Db
    cases b2
    · have N : Hid (CosG w (.returned (.tuple #[.slice (some ⟨g, 0, none⟩) 0 c, .slice (some ⟨g0, 0, none⟩) 0 0])) wb) := ⟨g, 0, c, A, g0, 0, 0, (fun _ => oneD), rfl, hn, hm, HK.out _ HUb.out, HLb.out, HZ.out, HY.out, HB2.out.trans (Db'.1.below (N := w.heap.size) (by rw [HPP.out]; exact Nat.le_refl _) HB2.out.size)⟩
      clear HLb HUb Db'
      go_wp2
      refine bodyPost_ret (v := .tuple #[.slice (some ⟨g, 0, none⟩) 0 c, .slice (some ⟨g0, 0, none⟩) 0 0]) (by simp [results, Try.results14, go_sem]) rfl N.out
    · go_wp2_with fail
      refine (draw4Any_dr Db'.2).mono ?_
      rintro e w9 ⟨g9, n9, c9, A9, rfl, hn9, L9, D9, -, Z9⟩
      have N : Hid (CosG w (.returned (.tuple #[.slice (some ⟨g, 0, none⟩) 0 c, .slice (some ⟨g9, 0, none⟩) n9 c9])) w9) := ⟨g, 0, c, A, g9, n9, c9, A9, rfl, hn, hn9, HK.out _ (HUb.out.trans (Upon.of_kept D9.1 hpl)), L9, HZ.out, Z9, HB2.out.trans ((D9.from Db'.1).1.below (N := w.heap.size) (by rw [HPP.out]; exact Nat.le_refl _) HB2.out.size)⟩
      clear HLb HUb Db' L9 D9 Z9
      go_wp2
      refine bodyPost_ret (v := .tuple #[.slice (some ⟨g, 0, none⟩) 0 c, .slice (some ⟨g9, 0, none⟩) n9 c9]) (by simp [results, Try.results14, go_sem]) rfl N.out
  have hn0 : (0 : Int) < (n : Int) := by omega
  go_wp2_with fail
  refine (below_dr (Dr.start D4.2) n (by omega) (by omega)).mono ?_
  rintro e w5 ⟨jj, rfl, hj0, hj1, D5⟩
  obtain ⟨j, rfl⟩ := Int.eq_ofNat_of_zero_le hj0
  have hj : j < n := by omega
  have D5' := D5.from D4.1
  have HU5 := hid_of (HU4.out.trans (Upon.of_kept D5.1 hpl))
  have HL5 : Hid (g0 < w5.heap.size) := Nat.lt_of_lt_of_le HL0.out D5.1.size
  obtain ⟨xa, xc, xb, xd, f0, f1, s1, s2⟩ := (HK.out _ HU5.out).2 j hj
  obtain ⟨n1, hn1⟩ : ∃ q, (A j).n = q := ⟨_, rfl⟩
  obtain ⟨n2, hn2⟩ : ∃ q, (A j).k = q := ⟨_, rfl⟩
  obtain ⟨W6, hW6, a6, b6, -⟩ := boxed w5 33 #[.slice xa (A j).n xc, .slice xb (A j).k xd]
  have L6 : OpsL W6 w5.heap.size 1 (fun _ => A j) := ⟨a6.lt, fun i hi => by
    obtain rfl : i = 0 := by omega
    exact ⟨xa, xc, xb, xd, a6.cell 0 rfl, a6.cell 1 rfl, s1.below b6, s2.below b6⟩⟩
  have CS := hid_of (specClose_any (c := 1) L6 (by omega))
  rw [hn1] at f0 hW6
  rw [hn2] at f1 hW6
  have D6 := D5'.below b6
  have HU6 := hid_of (HU5.out.trans (Upon.below b6))
  have HL6 : Hid (g0 < W6.heap.size) := Nat.lt_of_lt_of_le HL5.out b6.size
  clear D4 D5 D5' HU4 HU5 HL0 HL5 s1 s2 a6 L6 b6 hn1 hn2
  go_wp2_with fail
  refine CS.out.mono ?_
  rintro e w7 ⟨⟨g7, m7, c7, b7, X7, Y7, H7, rfl, OA7, S7, G7⟩, b7'⟩
  have D := D6.below b7'
  have HU := hid_of (HU6.out.trans (Upon.below b7'))
  have HL7 : Hid (g0 < w7.heap.size) := Nat.lt_of_lt_of_le HL6.out b7'.size
  have hs6 : p < W6.heap.size := by have := D6.1.size; omega
  clear CS f0 f1 D6 HU6 HL6 b7' hW6 hW4 hg0
  cases b7
  · have HM : Hid (∀ w'', Kept p w7 w'' → OpsL w'' g0 0 (fun _ => oneD)) := fun w'' k => ⟨Nat.lt_of_lt_of_le HL7.out k.size, fun i hi => by omega⟩
    have hm : 0 ≤ 193 := by omega
    have HY : Hid (∀ i, i < 0 → ((fun _ => oneD) i : OpD).n ≤ 9 ∧ ((fun _ => oneD) i : OpD).k ≤ 9) := fun i hi => by omega
    clear OA7 S7 G7
    go_wp2_with fail
    refine (once_dr (Dr.start D.2) 6 (by omega) (by omega)).mono ?_
    rintro e wb ⟨b2, rfl, Db⟩
    have HLb := hid_of (HM.out wb Db.1)
    have HUb := hid_of (HU.out.trans (Upon.of_kept Db.1 hpl))
    have Db' := Db.from D.1
    clear HM HU D Db
    cases b2
    · have N : Hid (CosG w (.returned (.tuple #[.slice (some ⟨g, 0, none⟩) n c, .slice (some ⟨g0, 0, none⟩) 0 0])) wb) := ⟨g, n, c, A, g0, 0, 0, (fun _ => oneD), rfl, hn, hm, HK.out _ HUb.out, HLb.out, HZ.out, HY.out, HB2.out.trans (Db'.1.below (N := w.heap.size) (by rw [HPP.out]; exact Nat.le_refl _) HB2.out.size)⟩
      clear HLb HUb Db'
      go_wp2
      refine bodyPost_ret (v := .tuple #[.slice (some ⟨g, 0, none⟩) n c, .slice (some ⟨g0, 0, none⟩) 0 0]) (by simp [results, Try.results14, go_sem]) rfl N.out
    · go_wp2_with fail
      refine (draw4Any_dr Db'.2).mono ?_
      rintro e w9 ⟨g9, n9, c9, A9, rfl, hn9, L9, D9, -, Z9⟩
      have N : Hid (CosG w (.returned (.tuple #[.slice (some ⟨g, 0, none⟩) n c, .slice (some ⟨g9, 0, none⟩) n9 c9])) w9) := ⟨g, n, c, A, g9, n9, c9, A9, rfl, hn, hn9, HK.out _ (HUb.out.trans (Upon.of_kept D9.1 hpl)), L9, HZ.out, Z9, HB2.out.trans ((D9.from Db'.1).1.below (N := w.heap.size) (by rw [HPP.out]; exact Nat.le_refl _) HB2.out.size)⟩
      clear HLb HUb Db' L9 D9 Z9
      go_wp2
      refine bodyPost_ret (v := .tuple #[.slice (some ⟨g, 0, none⟩) n c, .slice (some ⟨g9, 0, none⟩) n9 c9]) (by simp [results, Try.results14, go_sem]) rfl N.out
  · obtain ⟨hm192, hok⟩ : m7 ≤ 192 ∧ ∀ i, i < m7 → (H7 i).ok := by
      rcases S7 with ⟨-, -, -, Wq, hI⟩ | ⟨h, -⟩
      · exact ⟨hI.few, hI.ok⟩
      · exact absurd h (by decide)
    have HM : Hid (∀ w'', Kept p w7 w'' → OpsL w'' g7 m7 H7) := fun w'' k => OpsA.opsL OA7 |>.cur (fun _ => ⟨X7, Y7, G7 rfl, hok⟩) k hs6
    have hm : m7 ≤ 193 := by omega
    have HY : Hid (∀ i, i < m7 → (H7 i).n ≤ 9 ∧ (H7 i).k ≤ 9) := fun i hi => by
      have := hok i hi
      rw [this.1, this.2.1]
      omega
    clear OA7 S7 G7 hok
    go_wp2_with fail
    refine (once_dr (Dr.start D.2) 6 (by omega) (by omega)).mono ?_
    rintro e wb ⟨b2, rfl, Db⟩
    have HLb := hid_of (HM.out wb Db.1)
    have HUb := hid_of (HU.out.trans (Upon.of_kept Db.1 hpl))
    have Db' := Db.from D.1
    clear HM HU D Db
    cases b2
    · have N : Hid (CosG w (.returned (.tuple #[.slice (some ⟨g, 0, none⟩) n c, .slice (some ⟨g7, 0, none⟩) m7 c7])) wb) := ⟨g, n, c, A, g7, m7, c7, H7, rfl, hn, hm, HK.out _ HUb.out, HLb.out, HZ.out, HY.out, HB2.out.trans (Db'.1.below (N := w.heap.size) (by rw [HPP.out]; exact Nat.le_refl _) HB2.out.size)⟩
      clear HLb HUb Db'
      go_wp2
      refine bodyPost_ret (v := .tuple #[.slice (some ⟨g, 0, none⟩) n c, .slice (some ⟨g7, 0, none⟩) m7 c7]) (by simp [results, Try.results14, go_sem]) rfl N.out
    · go_wp2_with fail
      refine (draw4Any_dr Db'.2).mono ?_
      rintro e w9 ⟨g9, n9, c9, A9, rfl, hn9, L9, D9, -, Z9⟩
      have N : Hid (CosG w (.returned (.tuple #[.slice (some ⟨g, 0, none⟩) n c, .slice (some ⟨g9, 0, none⟩) n9 c9])) w9) := ⟨g, n, c, A, g9, n9, c9, A9, rfl, hn, hn9, HK.out _ (HUb.out.trans (Upon.of_kept D9.1 hpl)), L9, HZ.out, Z9, HB2.out.trans ((D9.from Db'.1).1.below (N := w.heap.size) (by rw [HPP.out]; exact Nat.le_refl _) HB2.out.size)⟩
      clear HLb HUb Db' L9 D9 Z9
      go_wp2
      refine bodyPost_ret (v := .tuple #[.slice (some ⟨g, 0, none⟩) n c, .slice (some ⟨g9, 0, none⟩) n9 c9]) (by simp [results, Try.results14, go_sem]) rfl N.out
end Go.Proofs.Ytpolnkjmojofoaa
