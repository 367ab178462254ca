/-
  The library's sort at operators: its contract laid over this program.
-/
import Derived.Test.YtmjeplhigjlopaaGi
import Derived.Shelf.SlSortCmp.WholeK
namespace Go.Proofs.Ytmjeplhigjlopaa
open Go.RowKit Go.Shelf Go.Sort

def sortR : Go.Shelf.Ren := ⟨fun | 6 => 76 | 15 => 99 | 14 => 98 | 28 => 114 | 29 => 115 | 20 => 106 | 21 => 107 | 22 => 108 | 23 => 109 | 24 => 110 | 25 => 111 | 26 => 112 | 27 => 113 | 46 => 118 | 47 => 119 | 48 => 120 | 49 => 121 | 50 => 122 | 57 => 124 | n => n, fun | 22 => 64 | 24 => 77 | 25 => 101 | 3 => 3 | 39 => 125 | 0 => 0 | 53 => 139 | 55 => 141 | 4 => 4 | 46 => 132 | 45 => 131 | 50 => 136 | 5 => 5 | 9 => 9 | 66 => 145 | 70 => 149 | 76 => 152 | 77 => 153 | n => n, fun | n => n⟩
theorem sortL : Go.Proofs.SlLaysF0.n6 Try.prog sortR := {
  mixed := by kernel_rfl,
  f6 := ⟨Try.f76.name, by decide, Try.func76.trans (congrArg some (by kernel_rfl))⟩,
  f14 := ⟨Try.f98.name, by decide, Try.func98.trans (congrArg some (by kernel_rfl))⟩,
  f15 := Try.func99.trans (congrArg some (by kernel_rfl)),
  f20 := ⟨Try.f106.name, by decide, Try.func106.trans (congrArg some (by kernel_rfl))⟩,
  f21 := ⟨Try.f107.name, by decide, Try.func107.trans (congrArg some (by kernel_rfl))⟩,
  f22 := ⟨Try.f108.name, by decide, Try.func108.trans (congrArg some (by kernel_rfl))⟩,
  f23 := ⟨Try.f109.name, by decide, Try.func109.trans (congrArg some (by kernel_rfl))⟩,
  f24 := ⟨Try.f110.name, by decide, Try.func110.trans (congrArg some (by kernel_rfl))⟩,
  f25 := ⟨Try.f111.name, by decide, Try.func111.trans (congrArg some (by kernel_rfl))⟩,
  f26 := ⟨Try.f112.name, by decide, Try.func112.trans (congrArg some (by kernel_rfl))⟩,
  f27 := ⟨Try.f113.name, by decide, Try.func113.trans (congrArg some (by kernel_rfl))⟩,
  f28 := Try.func114.trans (congrArg some (by kernel_rfl)),
  f29 := Try.func115.trans (congrArg some (by kernel_rfl)),
  f46 := ⟨Try.f118.name, by decide, Try.func118.trans (congrArg some (by kernel_rfl))⟩,
  f47 := Try.func119.trans (congrArg some (by kernel_rfl)),
  f48 := Try.func120.trans (congrArg some (by kernel_rfl)),
  f49 := ⟨Try.f121.name, by decide, Try.func121.trans (congrArg some (by kernel_rfl))⟩,
  f50 := ⟨Try.f122.name, by decide, Try.func122.trans (congrArg some (by kernel_rfl))⟩,
  f57 := ⟨Try.f124.name, by decide, Try.func124.trans (congrArg some (by kernel_rfl))⟩,
  t0 := Try.underlying0,
  a0 := Try.isAgg0,
  z0 := Try.sizeOf0,
  v0 := Try.zeroValue0,
  t3 := Try.underlying3,
  a3 := Try.isAgg3,
  z3 := Try.sizeOf3,
  v3 := Try.zeroValue3,
  t4 := Try.underlying4,
  a4 := Try.isAgg4,
  z4 := Try.sizeOf4,
  v4 := Try.zeroValue4,
  t5 := Try.underlying5,
  a5 := Try.isAgg5,
  z5 := Try.sizeOf5,
  v5 := Try.zeroValue5,
  t9 := Try.underlying9,
  a9 := Try.isAgg9,
  z9 := Try.sizeOf9,
  v9 := Try.zeroValue9,
  t22 := Try.underlying64,
  a22 := Try.isAgg64,
  z22 := Try.sizeOf64,
  v22 := Try.zeroValue64,
  t25 := Try.underlying101,
  a25 := Try.isAgg101,
  z25 := Try.sizeOf101,
  v25 := Try.zeroValue101,
  t39 := Try.underlying125,
  a39 := Try.isAgg125,
  z39 := Try.sizeOf125,
  v39 := Try.zeroValue125,
  t45 := Try.underlying131,
  a45 := Try.isAgg131,
  z45 := Try.sizeOf131,
  v45 := Try.zeroValue131,
  t46 := Try.underlying132,
  a46 := Try.isAgg132,
  z46 := Try.sizeOf132,
  v46 := Try.zeroValue132,
  t50 := Try.underlying136,
  a50 := Try.isAgg136,
  z50 := Try.sizeOf136,
  v50 := Try.zeroValue136,
  t53 := Try.underlying139,
  a53 := Try.isAgg139,
  z53 := Try.sizeOf139,
  v53 := Try.zeroValue139,
  t55 := Try.underlying141,
  a55 := Try.isAgg141,
  z55 := Try.sizeOf141,
  v55 := Try.zeroValue141,
  t66 := Try.underlying145,
  a66 := Try.isAgg145,
  z66 := Try.sizeOf145,
  v66 := Try.zeroValue145,
  t70 := Try.underlying149,
  a70 := Try.isAgg149,
  z70 := Try.sizeOf149,
  v70 := Try.zeroValue149,
  t76 := Try.underlying152,
  a76 := Try.isAgg152,
  z76 := Try.sizeOf152,
  v76 := Try.zeroValue152,
  t77 := Try.underlying153,
  a77 := Try.isAgg153,
  z77 := Try.sizeOf153,
  v77 := Try.zeroValue153 }
theorem lexC_eq {n : Nat} {f f' h h' : Nat → Int} (h1 : ∀ j, j < n → f j = f' j) (h2 : ∀ j, j < n → h j = h' j) : lexC n f h = lexC n f' h' := by
  have a := lexC_congr h1 h2
  have b := lexC_congr h2 h1
  have r1 := lexC_range n f h
  have r2 := lexC_range n f' h'
  have p1 := lexC_pos (n := n) (f := f) (h := h)
  have p2 := lexC_pos (n := n) (f := f') (h := h')
  rcases r1 with e | e | e <;> rcases r2 with e' | e' | e' <;> rw [e, e'] <;> rw [e] at a p1 <;> rw [e'] at a p2 <;> simp at a p1 p2 <;> (exfalso; grind)
theorem swoLex : SWO (ltOf (lexC 12)) where
  irrefl x := by
    unfold ltOf
    rw [decide_eq_false (lexC_irrefl 12 x)]
  trans x y z h1 h2 := by
    unfold ltOf at *
    rw [decide_eq_true_eq] at *
    exact lexC_trans h1 h2
  ntrans x y z h1 h2 := by
    unfold ltOf at *
    rw [decide_eq_false_iff_not] at *
    intro h3
    rcases lexC_cases 12 y z with ⟨_, e⟩ | ⟨p, hp, c, ⟨d, _⟩ | ⟨d, _⟩⟩
    · exact h1 ((lexC_congr (fun _ _ => rfl) (fun j hj => (e j hj).symm)).1 h3)
    · exact h2 (lexC_neg.2 ⟨p, hp, c, d⟩)
    · exact h1 (lexC_trans h3 (lexC_neg.2 ⟨p, hp, fun j hj => (c j hj).symm, d⟩))
theorem cmpLays61 (blk off size : Nat) (w : World) : CmpLays Try.prog 77 #[] kc 12 (lexC 12) blk off size w := by
  intro m os dk _ x y
  have h := compareOp_any x (fun i => x (9 + i)) y (fun i => y (9 + i)) (sortWorldK kc 12 w blk off m dk os)
  have ex : ∀ z : Nat → Int, ∀ j, j < 12 → cat 9 z (fun i => z (9 + i)) j = z j := fun z j hj => by
    by_cases e : j < 9
    · exact cat_lo _ _ e
    · obtain ⟨i, rfl⟩ : ∃ i, j = 9 + i := ⟨j - 9, by omega⟩
      exact cat_hi _ _ i
  rw [lexC_eq (ex x) (ex y)] at h
  exact h
theorem sort_raw (blk cap : Nat) (d : Array (Nat → Int)) (w : World) (hH : HoldsK kc 12 w blk 0 d) (hblk : blk < w.heap.size) (hsz : d.size ≤ 1000) :
    Calls Try.prog 76 #[.slice (some ⟨blk, 0, none⟩) d.size cap, .func (.func 77) #[] #[]] w fun e w' => e = .returned (.tuple #[]) ∧ ∃ d' n os, PermIn 0 d.size d d' ∧ SortedIn (ltOf (lexC 12)) 0 d.size d' ∧ w' = sortWorldK kc 12 w blk 0 n d' os := by
  have eg : ∀ args w, (callFunc 77 args).run Try.prog w = .ok (.enter 77 args) w := enters_of Try.func77 (by kernel_rfl) rfl
  exact AnyQ.slices_SortFunc sortL 12 Try.isAgg77 Try.sizeOf77 kc (fun _ => rfl) kc_one (lexC 12) swoLex 77 #[] blk 0 cap d w eg (cmpLays61 blk 0 d.size w) hH hblk (by omega)
/-- The list of the first n. -/
def arrOf (F : Nat → Nat → Int) (n : Nat) : Array (Nat → Int) := ((List.range n).map F).toArray
theorem arrOf_size (F : Nat → Nat → Int) (n : Nat) : (arrOf F n).size = n := by simp [arrOf]
theorem arrOf_get (F : Nat → Nat → Int) (n : Nat) {i : Nat} (hi : i < n) : (arrOf F n)[i]! = F i := by
  have hs := arrOf_size F n
  rw [getElem!_pos _ i (by omega)]
  simp [arrOf]
theorem holds_oprs {w : World} {base g n c : Nat} {F : Nat → Nat → Int} (h : Oprs w base (.slice (some ⟨g, 0, none⟩) n c) n F) : HoldsK kc 12 w g 0 (arrOf F n) := by
  rcases h.1.2 with ⟨h1, _⟩ | ⟨g', c', cur, e, hb, hh, hc1, hc2, hsz, ht⟩
  · cases h1
  cases e
  intro t ht2
  rw [size_flatK, arrOf_size] at ht2
  rw [get_flatK _ _ _ _ (by rw [arrOf_size]; exact ht2)]
  have hi : t / 12 < n := by omega
  rw [arrOf_get F n hi]
  have hk := kc_get (F (t / 12)) (t % 12) (by omega)
  have e2 : (kc (F (t / 12)))[t % 12]! = .int .i64 (F (t / 12) (t % 12)) := by
    rw [List.getElem!_eq_getElem?_getD, hk]; rfl
  rw [e2]
  have hg := kCells_get F hi (show t % 12 < 12 by omega)
  rw [show t / 12 * 12 + t % 12 = t by omega, ← ht, List.getElem?_take_of_lt (by omega)] at hg
  constructor
  · simp only [World.cell?, hh, Nat.zero_add]
    simpa using hg
  · simp [World.frozen?, hh]
theorem sorted_oprs {w : World} {base g n c m : Nat} {F : Nat → Nat → Int} {d' : Array (Nat → Int)} {os : Array Obj} (h : Oprs w base (.slice (some ⟨g, 0, none⟩) n c) n F) (hs : d'.size = n) :
    Oprs (sortWorldK kc 12 w g 0 m d' os) base (.slice (some ⟨g, 0, none⟩) n c) n (fun i => d'[i]!) ∧ w.grownBy (sortWorldK kc 12 w g 0 m d' os) (some g) := by
  rcases h.1.2 with ⟨h1, _⟩ | ⟨g', c', cur, e, hb, hh, hc1, hc2, hsz, ht⟩
  · cases h1
  cases e
  have hlt : g < w.heap.size := (Array.getElem?_eq_some_iff.1 hh).1
  have hg : (sortWorldK kc 12 w g 0 m d' os).heap[g]? = some (.cells (putCells id 0 (flatK kc 12 d') cur) 77 (0, 0)) := by
    unfold sortWorldK grow putRowK putRow mapBlock Go.Sort.ahead
    dsimp only
    rw [Array.getElem?_append_left (by simpa using hlt), Array.getElem?_modify, hh]
    simp [onCells]
  refine ⟨⟨⟨kCells_len _ _, .inr ⟨g, c, _, rfl, hb, hg, hc1, hc2, by simpa [putCells] using hsz, ?_⟩⟩, h.2⟩, ?_⟩
  · apply List.ext_getElem?
    intro t
    by_cases ht2 : t < n * 12
    · have hi : t / 12 < n := by omega
      have hk := kCells_get (fun i => d'[i]!) hi (show t % 12 < 12 by omega)
      rw [show t / 12 * 12 + t % 12 = t by omega] at hk
      rw [hk, List.getElem?_take_of_lt ht2]
      have hl : t < cur.size := by have := Nat.mul_le_mul_right 12 hc1; omega
      have hsf : (flatK kc 12 d').size = n * 12 := by rw [size_flatK, hs]
      have e2 : (kc d'[t / 12]!)[t % 12]! = .int .i64 (d'[t / 12]! (t % 12)) := by
        rw [List.getElem!_eq_getElem?_getD, kc_get _ _ (by omega)]; rfl
      have hfl := get_flatK kc 12 d' t (by rw [hs]; exact ht2)
      simp only [putCells, Array.getElem?_toList, Array.getElem?_mapIdx, Array.getElem?_eq_getElem hl, Option.map_some]
      rw [if_pos ⟨Nat.zero_le _, by omega⟩, Nat.sub_zero, hfl, e2]
      rfl
    · rw [List.getElem?_eq_none (by simp; omega), List.getElem?_eq_none (by rw [kCells_len]; omega)]
  · refine ⟨rfl, rfl, rfl, ?_, fun k hk hne => ?_⟩
    · unfold sortWorldK grow putRowK putRow mapBlock Go.Sort.ahead
      simp
    · unfold sortWorldK grow putRowK putRow mapBlock Go.Sort.ahead
      dsimp only
      rw [Array.getElem?_append_left (by simpa using hk), Array.getElem?_modify, if_neg (fun e => hne (by rw [e]))]
/-- The same operators, in another order; none less than one ahead of it. -/
def SortOf (n : Nat) (F G : Nat → Nat → Int) : Prop := ((List.range n).map G).Perm ((List.range n).map F) ∧ ∀ i j, i < j → j < n → ¬ lexC 12 (G j) (G i) < 0
theorem sort_any {w : World} {base n : Nat} {v : Value} {F : Nat → Nat → Int} (h : Oprs w base v n F) (hn : n ≤ 1000) :
    Calls Try.prog 76 #[v, .func (.func 77) #[] #[]] w fun e w' => e = .returned (.tuple #[]) ∧ (∃ G, Oprs w' base v n G ∧ SortOf n F G) ∧ w.grownBy w' v.ownBlock := by
  obtain ⟨g, c, rfl⟩ : ∃ g c, v = .slice (some ⟨g, 0, none⟩) n c := by
    rcases h.1.2 with ⟨h1, _⟩ | ⟨g, c, cur, e, _⟩
    · exact absurd h1 h.2
    · exact ⟨g, c, e⟩
  have hlt : g < w.heap.size := by
    rcases h.1.2 with ⟨h1, _⟩ | ⟨g', c', cur, e, hb, hh, _⟩
    · cases h1
    · cases e; exact (Array.getElem?_eq_some_iff.1 hh).1
  have hz := arrOf_size F n
  have hr := sort_raw g c (arrOf F n) w (holds_oprs h) hlt (by omega)
  rw [hz] at hr
  refine hr.mono ?_
  rintro e w' ⟨rfl, d', m, os, hp, hso, rfl⟩
  have hd : d'.size = n := by rw [hp.1, hz]
  obtain ⟨h1, h2⟩ := sorted_oprs (m := m) (os := os) h hd
  refine ⟨rfl, ⟨_, h1, ?_, fun i j hij hj hlt => ?_⟩, h2⟩
  · have e1 : (List.range n).map (fun i => d'[i]!) = (d'.extract 0 n).toList := by
      apply List.ext_getElem?
      intro i
      by_cases hi : i < n
      · rw [List.getElem?_map, List.getElem?_range hi]
        simp only [Option.map_some, Array.getElem?_toList]
        rw [Array.getElem?_extract]
        simp [hd, hi]
      · rw [List.getElem?_eq_none (by simp; omega), List.getElem?_eq_none (by simp; omega)]
    have e2 : ((arrOf F n).extract 0 n).toList = (List.range n).map F := by
      have : (arrOf F n).extract 0 n = arrOf F n := by
        have := Array.extract_size (xs := arrOf F n)
        rwa [hz] at this
      rw [this]
      simp [arrOf]
    rw [e1, ← e2]
    exact hp.2.2
  · have := hso i j (Nat.zero_le _) hij hj
    unfold ltOf at this
    rw [decide_eq_false_iff_not] at this
    exact this hlt
end Go.Proofs.Ytmjeplhigjlopaa
