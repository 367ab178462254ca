/-
  The law FnLanes, walked.
-/
import Derived.Test.YtmlgkmgkicdnbaaLWalkR
import Derived.Deep.Cut
namespace Go.Proofs.Ytmlgkmgkicdnbaa
open Go.RowKit Fl

/-- What is known behind the first append: the copy, the list, and what was there. -/
def St1 (w w1 w2 : World) (g n gcap g2 c2 : Nat) (f : Nat → Nat × Nat) : Prop :=
  w2.ownsRow w1.heap.size 28 2 (.slice (some ⟨g2, 0, none⟩) n c2) n (cxCells f n) ∧ w2.ownsRow w.heap.size 28 2 (.slice (some ⟨g, 0, none⟩) n gcap) n (cxCells f n) ∧ w1.heap.size ≤ g2 ∧ (w1.heap.size ≤ (w2.alloc (.cells #[.float .f64 0, .float .f64 0, .float .f64 0, .float .f64 0, .float .f64 0, .float .f64 0, .float .f64 0, .float .f64 0] 28)).heap.size ∧ w1.heap.size ≤ w2.heap.size ∧ w.heap.size ≤ w1.heap.size) ∧ Below w.heap.size w w2

theorem step1 {w w1 w2 : World} {g n gcap : Nat} {v2 : Value} {f : Nat → Nat × Nat} (hown2 : w2.ownsRow w1.heap.size 28 2 v2 (0 + n) ([] ++ cxCells f n)) (hgrow2 : (w1.alloc (.cells #[] 28)).grownBy w2 (Value.slice (some ⟨w1.heap.size, 0, none⟩) 0 0).ownBlock)
    (hne2 : v2 = .slice none 0 0 ↔ Value.slice (some ⟨w1.heap.size, 0, none⟩) 0 0 = .slice none 0 0 ∧ n = 0) (ho : w1.ownsRow w.heap.size 28 2 (.slice (some ⟨g, 0, none⟩) n gcap) n (cxCells f n)) (hglt : g < w1.heap.size) (hB : Below w.heap.size w w1) :
    ∃ g2 c2, v2 = .slice (some ⟨g2, 0, none⟩) n c2 ∧ St1 w w1 w2 g n gcap g2 c2 f := by
  simp only [Nat.zero_add, List.nil_append] at hown2
  obtain ⟨g2, c2, hv, hb, _⟩ := own_form hown2 (fun h => ne_nil _ _ _ (hne2.1 h).1)
  have hs := hgrow2.size
  simp at hs
  refine ⟨g2, c2, hv, hv ▸ hown2, ?_, hb, ⟨by simp; omega, by omega, hB.size⟩, ?_⟩
  · exact own_grown (B := w1.heap.size) (own_below ho (below_alloc _ _)) hgrow2 (fun k hk => by cases hk; exact Nat.le_refl _) (fun g' hg' => by cases hg'; exact hglt)
  · exact (hB.alloc hB.size (.cells #[] 28)).grown hgrow2 (by have := hB.size; simp; omega) (fun k hk => by cases hk; exact hB.size)

/-- Behind the second: the list with four noughts more. -/
def St2 (w w1 w3 : World) (g n gcap g3 c3 : Nat) (f : Nat → Nat × Nat) : Prop :=
  w3.ownsRow w1.heap.size 28 2 (.slice (some ⟨g3, 0, none⟩) (n + 4) c3) (n + 4) (cxCells (pad f n) (n + 4)) ∧ w3.ownsRow w.heap.size 28 2 (.slice (some ⟨g, 0, none⟩) n gcap) n (cxCells f n) ∧ g3 < w3.heap.size ∧ g < w3.heap.size ∧ Below w.heap.size w w3

theorem step2 {w w1 w2 w3 : World} {g n gcap g2 c2 : Nat} {v3 : Value} {f : Nat → Nat × Nat} (h : St1 w w1 w2 g n gcap g2 c2 f)
    (hown3 : w3.ownsRow w1.heap.size 28 2 v3 (n + 4) (cxCells f n ++ [.float .f64 0, .float .f64 0, .float .f64 0, .float .f64 0, .float .f64 0, .float .f64 0, .float .f64 0, .float .f64 0])) (hgrow3 : (w2.alloc (.cells #[.float .f64 0, .float .f64 0, .float .f64 0, .float .f64 0, .float .f64 0, .float .f64 0, .float .f64 0, .float .f64 0] 28)).grownBy w3 (Value.slice (some ⟨g2, 0, none⟩) n c2).ownBlock)
    (hne3 : v3 = .slice none 0 0 ↔ Value.slice (some ⟨g2, 0, none⟩) n c2 = .slice none 0 0 ∧ 4 = 0) (hglt : g < w1.heap.size) :
    ∃ g3 c3, v3 = .slice (some ⟨g3, 0, none⟩) (n + 4) c3 ∧ St2 w w1 w3 g n gcap g3 c3 f := by
  obtain ⟨h1, h2, h3, ⟨h4, h4', h4s⟩, h5⟩ := h
  rw [pad_cells] at hown3
  obtain ⟨g3, c3, hv, hb, hlt⟩ := own_form hown3 (fun h => ne_nil _ _ _ (hne3.1 h).1)
  have hs := hgrow3.size
  simp at hs
  refine ⟨g3, c3, hv, hv ▸ hown3, ?_, hlt, by omega, ?_⟩
  · exact own_grown (B := w1.heap.size) (own_below h2 (below_alloc _ _)) hgrow3 (fun k hk => by cases hk; exact h3) (fun g' hg' => by cases hg'; exact hglt)
  · have hB := h5.size
    have hw1 : w.heap.size ≤ g2 := Nat.le_trans h4s h3
    exact (h5.alloc h5.size _).grown hgrow3 (by simp; omega) (fun k hk => by cases hk; exact hw1)

/-- Behind the third: a copy of the list more. -/
def St3 (w w1 w3 w5 : World) (n g3 c3 g5 c5 : Nat) (f : Nat → Nat × Nat) : Prop :=
  w5.ownsRow w3.heap.size 28 2 (.slice (some ⟨g5, 0, none⟩) n c5) n (cxCells f n) ∧ w5.ownsRow w1.heap.size 28 2 (.slice (some ⟨g3, 0, none⟩) (n + 4) c3) (n + 4) (cxCells (pad f n) (n + 4)) ∧ g5 < w5.heap.size ∧ g3 < w5.heap.size ∧ Below w.heap.size w w5

theorem step3 {w w1 w3 w5 : World} {g n gcap g3 c3 : Nat} {v5 : Value} {f : Nat → Nat × Nat} (h : St2 w w1 w3 g n gcap g3 c3 f)
    (hown5 : w5.ownsRow w3.heap.size 28 2 v5 (0 + n) ([] ++ cxCells f n)) (hgrow5 : (w3.alloc (.cells #[] 28)).grownBy w5 (Value.slice (some ⟨w3.heap.size, 0, none⟩) 0 0).ownBlock)
    (hne5 : v5 = .slice none 0 0 ↔ Value.slice (some ⟨w3.heap.size, 0, none⟩) 0 0 = .slice none 0 0 ∧ n = 0) :
    ∃ g5 c5, v5 = .slice (some ⟨g5, 0, none⟩) n c5 ∧ St3 w w1 w3 w5 n g3 c3 g5 c5 f := by
  obtain ⟨h1, h2, h3, h4, h5⟩ := h
  simp only [Nat.zero_add, List.nil_append] at hown5
  obtain ⟨g5, c5, hv, hb, hlt⟩ := own_form hown5 (fun h => ne_nil _ _ _ (hne5.1 h).1)
  have hs := hgrow5.size
  simp at hs
  refine ⟨g5, c5, hv, hv ▸ hown5, ?_, hlt, by omega, ?_⟩
  · exact own_grown (B := w3.heap.size) (own_below h1 (below_alloc _ _)) hgrow5 (fun k hk => by cases hk; exact Nat.le_refl _) (fun g' hg' => by cases hg'; exact h3)
  · exact (h5.alloc h5.size (.cells #[] 28)).grown hgrow5 (by have := h5.size; simp; omega) (fun k hk => by cases hk; exact h5.size)

set_option maxRecDepth 100000 in
set_option maxHeartbeats 3200000 in
theorem lanes_walk (a : Option Addr) (len cap : Nat) (w : World) (hr : Row w w.heap.size a len) :
    Calls Try.prog 3 #[.slice a len cap] w fun e w' => e = .returned (.bool true) ∧ Below w.heap.size w w' := by
  have hg := fun w => big_any a len cap w hr.1
  by_cases hbig : 1048576 < len
  · have hd : decide (1048576 < len) = true := by simpa using hbig
    rw [hd] at hg
    clear hr
    go_enter Try.func3, Try.ntmps3
    go_wp2_with (go_at_call 6; refine (hg _).mono ?_; rintro e w1 ⟨rfl, rfl⟩)
    go_ret
    exact ⟨rfl, Below.refl _ _⟩
  have hd : decide (1048576 < len) = false := by simpa using hbig
  rw [hd] at hg
  have HR : Hid (Row w w.heap.size a len) := hr
  clear hr hbig hd
  go_enter Try.func3, Try.ntmps3
  go_wp2_with fail
  refine (hg _).mono ?_
  rintro e w1 ⟨rfl, rfl⟩
  clear hg
  go_wp2_with fail
  refine (drawLanes_any HR.out).mono ?_
  rintro e w1 ⟨v, rfl, hdr, HB⟩
  clear HR
  rcases hdr with ⟨g, m, gcap, rfl, hm1, hm2⟩ | ⟨n, f, hn, hnn, hown⟩
  · have hbig : (4096 : Int) < (m : Int) + 4 := by omega
    have o1 := ord_1
    have o2 := ord_2
    go_wp2_with fail
    refine (lanes_two w1).mono ?_
    rintro e w2 ⟨rfl, hb2⟩
    replace HB := HB.trans (hb2.mono HB.size)
    clear hb2
    go_wp2
    go_ret
    exact ⟨rfl, HB⟩
  · have hsmall : ¬ (4096 : Int) < (n : Int) + 4 := by omega
    obtain ⟨g, gcap, rfl, hgb, hglt⟩ := own_form hown hnn
    clear hnn
    have HO : Hid (w1.ownsRow w.heap.size 28 2 (.slice (some ⟨g, 0, none⟩) n gcap) n (cxCells f n)) := hown
    have HB' : Hid (Below w.heap.size w w1) := HB
    clear hown HB
    go_upto_region 6 with (fail)
    have hbs : ∀ w, (Instr.buildSlice 24 0 #[]).run Try.prog w = .ok (.slice (some ⟨w.heap.size, 0, none⟩) 0 0) (w.alloc (.cells #[] 28)) := fun _ => by kernel_rfl
    have hb4 : ∀ w, (Instr.buildSlice 24 4 #[(0, .agg #[.float .f64 0, .float .f64 0]), (1, .agg #[.float .f64 0, .float .f64 0]), (2, .agg #[.float .f64 0, .float .f64 0]), (3, .agg #[.float .f64 0, .float .f64 0])]).run Try.prog w = .ok (.slice (some ⟨w.heap.size, 0, none⟩) 4 4) (w.alloc (.cells #[.float .f64 0, .float .f64 0, .float .f64 0, .float .f64 0, .float .f64 0, .float .f64 0, .float .f64 0, .float .f64 0] 28)) := fun _ => by kernel_rfl
    obtain ⟨i0, hi0, hz0, hz1, hz2⟩ := info_parts Try.info28
    have t1 : Hid True := trivial
    clear hsmall
    go_wp2_with (first | (at_builtin; have k1 := t1; clear k1 t1; refine wpList_append_own _ rfl _ _ _ rfl w1.heap.size 28 i0 _ 2 16 Try.underlying24 hi0 hz0 hz1 hz2 rfl (by omega) (.slice (some ⟨w1.heap.size, 0, none⟩) 0 0) 0 [] rfl (own_empty w1) ⟨g, 0, none⟩ n gcap (cxCells f n) rfl (cxCells_len f n) (own_news (own_below HO.out (below_alloc w1 (.cells #[] 28)))) (cx_one f n) (by unfold maxLen; omega) (by omega) (by simp) ?_; intro v2 w2 hown2 hgrow2 hne2; obtain ⟨g2, c2, hv2, hg2⟩ := step1 hown2 hgrow2 hne2 HO.out hglt HB'.out; clear hown2 hgrow2 hne2; subst hv2) | (at_builtin; have k2 := hg2; clear k2; refine wpList_append_own _ rfl _ _ _ rfl w1.heap.size 28 i0 _ 2 16 Try.underlying24 hi0 hz0 hz1 hz2 rfl (by omega) (.slice (some ⟨g2, 0, none⟩) n c2) n (cxCells f n) rfl (hg2.1.alloc _) ⟨w2.heap.size, 0, none⟩ 4 4 [.float .f64 0, .float .f64 0, .float .f64 0, .float .f64 0, .float .f64 0, .float .f64 0, .float .f64 0, .float .f64 0] rfl rfl (World.news_of_block (cs := #[.float .f64 0, .float .f64 0, .float .f64 0, .float .f64 0, .float .f64 0, .float .f64 0, .float .f64 0, .float .f64 0]) (t := 28) (fr := (0, 0)) (heap_alloc_new w2 _)) (by simp [Value.oneCell']) (by unfold maxLen; omega) (by omega) hg2.2.2.2.1.1 ?_; intro v3 w3 hown3 hgrow3 hne3; obtain ⟨g3, c3, hv3, hg3⟩ := step2 hg2 hown3 hgrow3 hne3 hglt; clear hown3 hgrow3 hne3 hg2; subst hv3; have t3 : Hid True := trivial) | (at_builtin; have k3 := t3; clear k3 t3; refine wpList_append_own _ rfl _ _ _ rfl w3.heap.size 28 i0 _ 2 16 Try.underlying24 hi0 hz0 hz1 hz2 rfl (by omega) (.slice (some ⟨w3.heap.size, 0, none⟩) 0 0) 0 [] rfl (own_empty w3) ⟨g, 0, none⟩ n gcap (cxCells f n) rfl (cxCells_len f n) (own_news (own_below hg3.2.1 (below_alloc w3 (.cells #[] 28)))) (cx_one f n) (by unfold maxLen; omega) (by omega) (by simp) ?_; intro v5 w5 hown5 hgrow5 hne5; obtain ⟨g5, c5, hv5, hg5⟩ := step3 hg3 hown5 hgrow5 hne5; clear hown5 hgrow5 hne5 hg3; subst hv5; have t4 : Hid True := trivial))
    obtain ⟨s1, s2, s3, s4, s5⟩ := hg5
    clear HO HB' hb4 hbs hi0 hz0 hz1 hz2
    refine (lanes_any (cxRow_of s1) s3 (by omega)).mono ?_
    rintro e w6 ⟨re1, im1, rfl, ht1, hb6⟩
    have s2' := own_below s2 hb6
    have HB := s5.trans (hb6.mono s5.size)
    have s4' := Nat.lt_of_lt_of_le s4 hb6.size
    clear s1 s2 s3 s4 s5 hb6
    go_wp2_with fail
    refine (lanes_any (cxRow_of s2') s4' (by omega)).mono ?_
    rintro e w7 ⟨re2, im2, rfl, ht2, hb7⟩
    replace HB := HB.trans (hb7.mono HB.size)
    clear hb7 s2' s4'
    have hz := clo_totals ((ht1.trans (pad_total f n)).trans ht2.symm)
    clear ht1 ht2
    go_wp2_with fail
    refine (cxOrder_any _ _ _ _ _).mono ?_
    rintro e w8 ⟨rfl, hb8⟩
    replace HB := HB.trans (hb8.mono HB.size)
    clear hb8
    go_wp2_with fail
    refine (lanes_four w8).mono ?_
    rintro e w9 ⟨rfl, hb9⟩
    replace HB := HB.trans (hb9.mono HB.size)
    clear hb9 hz
    have o4 := ord_4
    have o3 := ord_m3
    go_wp2
    go_ret
    exact ⟨rfl, HB⟩

end Go.Proofs.Ytmlgkmgkicdnbaa
