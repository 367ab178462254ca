/-
  Lists that are gathered by append; the facets that show, by the specification; crossings, by the program: walked.
-/
import Derived.Test.YtealbihplfpgeaaHe
import Derived.Test.YtealbihplfpgeaaFf
import Derived.Maps.AppendAt
import Derived.Lib.SliceRun
namespace Go.Proofs.Ytealbihplfpgeaa
open Go.RowKit

/-- A list of numbers as cells. -/
def lCells (l : List Int) : List Value := l.map (Value.int .i64)
theorem lCells_one (l : List Int) : ∀ u ∈ lCells l, u.oneCell' = true := by
  intro u hu
  obtain ⟨x, -, rfl⟩ := List.mem_map.1 hu
  rfl
theorem nn_some (a : Addr) (n c : Nat) : Value.slice (some a) n c ≠ .slice none 0 0 := by intro h; cases h
theorem own_below {w w' : World} {B : Nat} {e : TypeId} {k : Nat} {v : Value} {n : Nat} {xs : List Value} (h : w.ownsRow B e k v n xs) (hb : Below w.heap.size w w') : w'.ownsRow B e k v n xs := by
  refine ⟨h.1, h.2.imp id ?_⟩
  rintro ⟨g, cap, cur, rfl, h1, h2, h3⟩
  exact ⟨g, cap, cur, rfl, h1, (hb.block g (Array.getElem?_eq_some_iff.1 h2).1).trans h2, h3⟩
theorem ownBlock_ge {w : World} {base : Nat} {e : TypeId} {size : Nat} {v : Value} {n : Nat} {xs : List Value} (h : w.ownsRow base e size v n xs) {j : Nat} (hj : v.ownBlock = some j) : base ≤ j := by
  rcases h.2 with ⟨rfl, _⟩ | ⟨g, cap, cur, rfl, hb, _⟩
  · cases hj
  · cases hj; exact hb
/-- What stands while a list is gathered. -/
structure Gat (w0 w : World) (B : Nat) (t : TypeId) (e : Nat) (v : Value) (m : Nat) (l : List Int) : Prop where
  own : w.ownsRow B t e v m (lCells l)
  nn : v ≠ .slice none 0 0
  b : Below w0.heap.size w0 w
  o2 : w0.heap.size ≤ B
  o3 : B ≤ w.heap.size
theorem Gat.below {w0 w w' : World} {B : Nat} {t : TypeId} {e : Nat} {v : Value} {m : Nat} {l : List Int} (s : Gat w0 w B t e v m l) (hb : Below w.heap.size w w') : Gat w0 w' B t e v m l :=
  ⟨own_below s.own hb, s.nn, s.b.trans (hb.mono s.b.size), s.o2, Nat.le_trans s.o3 hb.size⟩
theorem Gat.grow {w0 w w' : World} {B : Nat} {t : TypeId} {e : Nat} {v v' : Value} {m m' : Nat} {l l' : List Int} (s : Gat w0 w B t e v m l) (h1 : w'.ownsRow B t e v' m' (lCells l ++ lCells l')) (hg : w.grownBy w' v.ownBlock) (hv : v' ≠ .slice none 0 0) : Gat w0 w' B t e v' m' (l ++ l') := by
  have Bg : Below B w w' := Below.grown (Below.refl _ _) hg s.o3 (fun x hx => ownBlock_ge s.own hx)
  exact ⟨by rw [lCells, List.map_append]; exact h1, hv, s.b.trans (Bg.mono s.o2), s.o2, Nat.le_trans s.o3 hg.size⟩
theorem Gat.start {w0 W : World} {t : TypeId} {e : Nat} (h : At t W w0.heap.size #[]) (hb : Below w0.heap.size w0 W) : Gat w0 W w0.heap.size t e (.slice (some ⟨w0.heap.size, 0, none⟩) 0 0) 0 [] :=
  ⟨⟨by simp [lCells], .inr ⟨w0.heap.size, 0, #[], rfl, Nat.le_refl _, h, Nat.le_refl _, Nat.zero_le _, by simp, by simp [lCells]⟩⟩, nn_some _ _ _, hb, Nat.le_refl _, hb.size⟩
/-- A gathered list, read. -/
theorem Gat.open {w0 w : World} {B : Nat} {t : TypeId} {e : Nat} {v : Value} {m : Nat} {l : List Int} (s : Gat w0 w B t e v m l) : ∃ g c, v = .slice (some ⟨g, 0, none⟩) m c ∧ B ≤ g ∧ m ≤ c ∧ g < w.heap.size ∧ ∀ i, i < l.length → w.cell? ⟨g, i, none⟩ = some (.int .i64 (l.getD i 0)) := by
  rcases s.own.2 with ⟨e, _⟩ | ⟨g, c, cur, e, hb, hh, hc1, hc2, hsz, ht⟩
  · exact absurd e s.nn
  · refine ⟨g, c, e, hb, hc1, (Array.getElem?_eq_some_iff.1 hh).1, fun i hi => ?_⟩
    have hl := s.own.1
    simp only [lCells, List.length_map] at hl
    have a1 : (lCells l)[i]? = some (.int .i64 (l.getD i 0)) := by simp [lCells, hi]
    rw [← ht] at a1
    rw [List.getElem?_take_of_lt (by omega)] at a1
    simpa [World.cell?, hh] using a1
theorem Gat.len {w0 w : World} {B : Nat} {t : TypeId} {e : Nat} {v : Value} {m : Nat} {l : List Int} (s : Gat w0 w B t e v m l) : l.length = m * e := by
  have hl := s.own.1
  simpa [lCells] using hl
theorem news1 {w : World} {t : TypeId} {g : Nat} {x : Int} (h : At t w g #[.int .i64 x]) : ∀ j u, (lCells [x])[j]? = some u → w.cell? ((⟨g, 0, none⟩ : Addr).add j) = some u := by
  intro j u hu
  rcases j with _ | j
  · simp [lCells] at hu; subst hu; exact h.cell 0 rfl
  · simp [lCells] at hu
theorem news3 {w : World} {t : TypeId} {g : Nat} {x y b : Int} (h : At t w g #[.int .i64 x, .int .i64 y, .int .i64 b]) : ∀ j u, (lCells [x, y, b])[j]? = some u → w.cell? ((⟨g, 0, none⟩ : Addr).add j) = some u := by
  intro j u hu
  rcases j with _ | _ | _ | j
  · simp [lCells] at hu; subst hu; exact h.cell 0 rfl
  · simp [lCells] at hu; subst hu; exact h.cell 1 rfl
  · simp [lCells] at hu; subst hu; exact h.cell 2 rfl
  · simp [lCells] at hu
theorem infoInt : (Try.prog.info? 2).map (fun i => (i.zero, i.size, i.bytes)) = some (some (.int .i64 0), 1, 8) := by kernel_rfl
theorem infoCorner : (Try.prog.info? 33).map (fun i => (i.zero, i.size, i.bytes)) = some (some (.agg #[.int .i64 0, .int .i64 0, .int .i64 0]), 3, 24) := by kernel_rfl
/-- The facets that show, among the first k. -/
noncomputable def shTo (f : Nat → Int) (n k : Nat) : List Nat := (List.range k).filter (fun i => @decide (Sh f n i) (Classical.propDecidable _))
theorem shTo_yes {f : Nat → Int} {n k : Nat} (h : Sh f n k) : shTo f n (k + 1) = shTo f n k ++ [k] := by
  simp [shTo, List.range_succ, h]
theorem shTo_no {f : Nat → Int} {n k : Nat} (h : ¬ Sh f n k) : shTo f n (k + 1) = shTo f n k := by
  simp [shTo, List.range_succ, h]
theorem shTo_le (f : Nat → Int) (n k : Nat) : (shTo f n k).length ≤ k := by
  have := List.length_filter_le (fun i => @decide (Sh f n i) (Classical.propDecidable _)) (List.range k)
  simpa [shTo] using this
def toI (l : List Nat) : List Int := l.map (fun (i : Nat) => (i : Int))
set_option maxRecDepth 100000 in
set_option maxHeartbeats 1600000 in
theorem specShows_yes {w : World} {g n c : Nat} {f : Nat → Int} (S : SOk n f) (h : Trips w g n f) :
    Calls Try.prog 20 #[.slice (some ⟨g, 0, none⟩) n c] w fun e w' => ∃ v, e = .returned v ∧ Gat w w' w.heap.size 2 1 v (shl f n).length (toI (shl f n)) := by
  have hn := S.hi
  have hn' : (n : Int) ≤ 40 := by omega
  obtain ⟨i0, hi0, hz0, hz1, hz2⟩ := info_parts infoInt
  obtain ⟨V, hV, A0, B, -⟩ := boxed w 2 #[]
  have R : Gat w V w.heap.size 2 1 (.slice (some ⟨w.heap.size, 0, none⟩) 0 0) 0 [] := Gat.start A0 B
  have hbs : ∀ w, (Instr.buildSlice 27 0 #[]).run Try.prog w = .ok (.slice (some ⟨w.heap.size, 0, none⟩) 0 0) (w.alloc (.cells #[] 2)) := fun _ => by kernel_rfl
  go_enter Try.func20, Try.ntmps20
  go_wp2_with fail
  refine (specShape_any (h.below B) (by omega) true ⟨fun _ => S, fun _ => rfl⟩).mono ?_
  rintro e w1 ⟨rfl, b1⟩
  replace R := R.below b1
  clear hV A0 B b1
  go_wp2
  go_loopw [3, 4] (fun s t wr => ∃ (k m : Nat) (l : List Nat), k ≤ n ∧ shTo f n k = l ∧ l.length = m ∧ m ≤ k ∧ t = .int .i64 (k : Int) ∧ Gat w wr w.heap.size 2 1 s m (toI l)) (fun _ t _ => n - (intOf t).toNat)
  case atStart => exact ⟨0, 0, [], Nat.zero_le _, rfl, rfl, Nat.le_refl _, rfl, R⟩
  case round =>
    clear R
    obtain ⟨k, m, l, hk', hl, hm, hmk, rfl, R⟩ := hrel
    by_cases hk : k < n
    · have hklt : (k : Int) < (n : Int) := by omega
      by_cases hsh : Sh f n k
      · have H := shTo_yes hsh
        rw [hl] at H
        have L := h.below R.b
        go_wp2_with fail
        refine (shows_any S L hk true ⟨fun _ => hsh, fun _ => rfl⟩).mono ?_
        rintro e w2 ⟨rfl, b2⟩
        replace R := R.below b2
        clear b2 L
        obtain ⟨V9, hV9, A9, b10, -⟩ := boxed w2 2 #[.int .i64 (k : Int)]
        have R9 := R.below b10
        obtain ⟨g9, hg9⟩ : ∃ g, w2.heap.size = g := ⟨_, rfl⟩
        rw [hg9] at A9
        have hb2 : ∀ w, (Instr.buildSlice 27 1 #[(0, .int .i64 (k : Int))]).run Try.prog w = .ok (.slice (some ⟨w.heap.size, 0, none⟩) 1 1) (w.alloc (.cells #[.int .i64 (k : Int)] 2)) := fun _ => by kernel_rfl
        clear b10 hl hsh
        go_wp2_with (at_builtin; refine wpList_append_own _ rfl _ _ _ rfl w.heap.size 2 i0 _ 1 8 Try.underlying27 hi0 hz0 hz1 hz2 rfl (by omega) u3 m (lCells (toI l)) rfl R9.own ⟨g9, 0, none⟩ 1 1 (lCells [(k : Int)]) rfl rfl (news1 A9) (lCells_one _) (by unfold maxLen; omega) (by omega) R9.o3 ?_; intro v2 w3 hown2 hgrow2 hne2)
        have R2 := R9.grow hown2 hgrow2 (fun h => R9.nn (hne2.1 h).1)
        refine ⟨⟨k + 1, m + 1, l ++ [k], by omega, H, by simp [hm], by omega, by go_num, ?_⟩, by simp [intOf]; omega⟩
        simpa [toI] using R2
      · have H := shTo_no hsh
        rw [hl] at H
        have L := h.below R.b
        go_wp2_with fail
        refine (shows_any S L hk false ⟨fun h => Bool.noConfusion h, fun h => absurd h hsh⟩).mono ?_
        rintro e w2 ⟨rfl, b2⟩
        replace R := R.below b2
        clear b2 L hl hsh
        go_wp2
        exact ⟨⟨k + 1, m, l, by omega, H, hm, by omega, by go_num, R⟩, by simp [intOf]; omega⟩
    · have hklt : ¬ (k : Int) < (n : Int) := by omega
      obtain rfl : k = n := by omega
      go_wp2
      refine bodyPost_ret (v := u3) (by simp [results, Try.results20, go_sem]) rfl ⟨_, rfl, ?_⟩
      rw [show shl f k = l from hl, hm]
      exact R
set_option maxRecDepth 100000 in
theorem specShows_no {w : World} {g n c : Nat} {f : Nat → Int} (S : ¬ SOk n f) (h : Trips w g n f) (hn : n ≤ 1048576) :
    Calls Try.prog 20 #[.slice (some ⟨g, 0, none⟩) n c] w fun e w' => ∃ v, e = .returned v ∧ Gat w w' w.heap.size 2 1 v 0 [] := by
  obtain ⟨V, hV, A0, B, -⟩ := boxed w 2 #[]
  have R : Gat w V w.heap.size 2 1 (.slice (some ⟨w.heap.size, 0, none⟩) 0 0) 0 [] := Gat.start A0 B
  have hbs : ∀ w, (Instr.buildSlice 27 0 #[]).run Try.prog w = .ok (.slice (some ⟨w.heap.size, 0, none⟩) 0 0) (w.alloc (.cells #[] 2)) := fun _ => by kernel_rfl
  go_enter Try.func20, Try.ntmps20
  go_wp2_with fail
  refine (specShape_any (h.below B) hn false ⟨fun h => Bool.noConfusion h, fun h => absurd h S⟩).mono ?_
  rintro e w1 ⟨rfl, b1⟩
  replace R := R.below b1
  go_wp2
  exact bodyPost_ret (v := .slice (some ⟨w.heap.size, 0, none⟩) 0 0) (by simp [results, Try.results20, go_sem]) rfl ⟨_, rfl, R⟩
end Go.Proofs.Ytealbihplfpgeaa
