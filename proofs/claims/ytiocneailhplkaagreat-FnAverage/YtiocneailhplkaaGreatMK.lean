/-
  The library's sort at operators: its contract laid over this program.
-/
import Derived.Test.YtiocneailhplkaaGreatMI
import Derived.Shelf.SlSortCmp.WholeK
import Derived.Test.YtiocneailhplkaaGreatGm
namespace Go.Proofs.YtiocneailhplkaaGreat
open Go.RowKit Go.Shelf Go.Sort

def sortR : Go.Shelf.Ren := ⟨fun | 6 => 106 | 15 => 114 | 14 => 113 | 28 => 126 | 29 => 127 | 20 => 118 | 21 => 119 | 22 => 120 | 23 => 121 | 24 => 122 | 25 => 123 | 26 => 124 | 27 => 125 | 46 => 129 | 47 => 130 | 48 => 131 | 49 => 132 | 50 => 133 | 57 => 134 | n => n, fun | 22 => 60 | 24 => 90 | 25 => 133 | 3 => 3 | 39 => 105 | 0 => 0 | 53 => 164 | 55 => 166 | 4 => 4 | 46 => 157 | 45 => 156 | 50 => 161 | 5 => 5 | 9 => 9 | 66 => 167 | 70 => 171 | 76 => 173 | 77 => 174 | n => n, fun | n => n⟩
theorem sortL : Go.Proofs.SlLaysF0.n6 Tryz.prog sortR := {
  mixed := by kernel_rfl,
  f6 := ⟨Tryz.f106.name, by decide, Tryz.func106.trans (congrArg some (by kernel_rfl))⟩,
  f14 := ⟨Tryz.f113.name, by decide, Tryz.func113.trans (congrArg some (by kernel_rfl))⟩,
  f15 := Tryz.func114.trans (congrArg some (by kernel_rfl)),
  f20 := ⟨Tryz.f118.name, by decide, Tryz.func118.trans (congrArg some (by kernel_rfl))⟩,
  f21 := ⟨Tryz.f119.name, by decide, Tryz.func119.trans (congrArg some (by kernel_rfl))⟩,
  f22 := ⟨Tryz.f120.name, by decide, Tryz.func120.trans (congrArg some (by kernel_rfl))⟩,
  f23 := ⟨Tryz.f121.name, by decide, Tryz.func121.trans (congrArg some (by kernel_rfl))⟩,
  f24 := ⟨Tryz.f122.name, by decide, Tryz.func122.trans (congrArg some (by kernel_rfl))⟩,
  f25 := ⟨Tryz.f123.name, by decide, Tryz.func123.trans (congrArg some (by kernel_rfl))⟩,
  f26 := ⟨Tryz.f124.name, by decide, Tryz.func124.trans (congrArg some (by kernel_rfl))⟩,
  f27 := ⟨Tryz.f125.name, by decide, Tryz.func125.trans (congrArg some (by kernel_rfl))⟩,
  f28 := Tryz.func126.trans (congrArg some (by kernel_rfl)),
  f29 := Tryz.func127.trans (congrArg some (by kernel_rfl)),
  f46 := ⟨Tryz.f129.name, by decide, Tryz.func129.trans (congrArg some (by kernel_rfl))⟩,
  f47 := Tryz.func130.trans (congrArg some (by kernel_rfl)),
  f48 := Tryz.func131.trans (congrArg some (by kernel_rfl)),
  f49 := ⟨Tryz.f132.name, by decide, Tryz.func132.trans (congrArg some (by kernel_rfl))⟩,
  f50 := ⟨Tryz.f133.name, by decide, Tryz.func133.trans (congrArg some (by kernel_rfl))⟩,
  f57 := ⟨Tryz.f134.name, by decide, Tryz.func134.trans (congrArg some (by kernel_rfl))⟩,
  t0 := Tryz.underlying0,
  a0 := Tryz.isAgg0,
  z0 := Tryz.sizeOf0,
  v0 := Tryz.zeroValue0,
  t3 := Tryz.underlying3,
  a3 := Tryz.isAgg3,
  z3 := Tryz.sizeOf3,
  v3 := Tryz.zeroValue3,
  t4 := Tryz.underlying4,
  a4 := Tryz.isAgg4,
  z4 := Tryz.sizeOf4,
  v4 := Tryz.zeroValue4,
  t5 := Tryz.underlying5,
  a5 := Tryz.isAgg5,
  z5 := Tryz.sizeOf5,
  v5 := Tryz.zeroValue5,
  t9 := Tryz.underlying9,
  a9 := Tryz.isAgg9,
  z9 := Tryz.sizeOf9,
  v9 := Tryz.zeroValue9,
  t22 := Tryz.underlying60,
  a22 := Tryz.isAgg60,
  z22 := Tryz.sizeOf60,
  v22 := Tryz.zeroValue60,
  t25 := Tryz.underlying133,
  a25 := Tryz.isAgg133,
  z25 := Tryz.sizeOf133,
  v25 := Tryz.zeroValue133,
  t39 := Tryz.underlying105,
  a39 := Tryz.isAgg105,
  z39 := Tryz.sizeOf105,
  v39 := Tryz.zeroValue105,
  t45 := Tryz.underlying156,
  a45 := Tryz.isAgg156,
  z45 := Tryz.sizeOf156,
  v45 := Tryz.zeroValue156,
  t46 := Tryz.underlying157,
  a46 := Tryz.isAgg157,
  z46 := Tryz.sizeOf157,
  v46 := Tryz.zeroValue157,
  t50 := Tryz.underlying161,
  a50 := Tryz.isAgg161,
  z50 := Tryz.sizeOf161,
  v50 := Tryz.zeroValue161,
  t53 := Tryz.underlying164,
  a53 := Tryz.isAgg164,
  z53 := Tryz.sizeOf164,
  v53 := Tryz.zeroValue164,
  t55 := Tryz.underlying166,
  a55 := Tryz.isAgg166,
  z55 := Tryz.sizeOf166,
  v55 := Tryz.zeroValue166,
  t66 := Tryz.underlying167,
  a66 := Tryz.isAgg167,
  z66 := Tryz.sizeOf167,
  v66 := Tryz.zeroValue167,
  t70 := Tryz.underlying171,
  a70 := Tryz.isAgg171,
  z70 := Tryz.sizeOf171,
  v70 := Tryz.zeroValue171,
  t76 := Tryz.underlying173,
  a76 := Tryz.isAgg173,
  z76 := Tryz.sizeOf173,
  v76 := Tryz.zeroValue173,
  t77 := Tryz.underlying174,
  a77 := Tryz.isAgg174,
  z77 := Tryz.sizeOf174,
  v77 := Tryz.zeroValue174 }
theorem lexC_eq {n : Nat} {f f' h h' : Nat → Int} (h1 : ∀ j, j < n → f j = f' j) (h2 : ∀ j, j < n → h j = h' j) : lexC n f h = lexC n f' h' := by
  have a := lexC_congr h1 h2
  have b := lexC_congr h2 h1
  have r1 := lexC_range n f h
  have r2 := lexC_range n f' h'
  have p1 := lexC_pos (n := n) (f := f) (h := h)
  have p2 := lexC_pos (n := n) (f := f') (h := h')
  rcases r1 with e | e | e <;> rcases r2 with e' | e' | e' <;> rw [e, e'] <;> rw [e] at a p1 <;> rw [e'] at a p2 <;> simp at a p1 p2 <;> (exfalso; grind)
theorem swoLex : SWO (ltOf (lexC 12)) where
  irrefl x := by
    unfold ltOf
    rw [decide_eq_false (lexC_irrefl 12 x)]
  trans x y z h1 h2 := by
    unfold ltOf at *
    rw [decide_eq_true_eq] at *
    exact lexC_trans h1 h2
  ntrans x y z h1 h2 := by
    unfold ltOf at *
    rw [decide_eq_false_iff_not] at *
    intro h3
    rcases lexC_cases 12 y z with ⟨_, e⟩ | ⟨p, hp, c, ⟨d, _⟩ | ⟨d, _⟩⟩
    · exact h1 ((lexC_congr (fun _ _ => rfl) (fun j hj => (e j hj).symm)).1 h3)
    · exact h2 (lexC_neg.2 ⟨p, hp, c, d⟩)
    · exact h1 (lexC_trans h3 (lexC_neg.2 ⟨p, hp, fun j hj => (c j hj).symm, d⟩))
theorem cmpLays61 (blk off size : Nat) (w : World) : CmpLays Tryz.prog 98 #[] kc 12 (lexC 12) blk off size w := by
  intro m os dk _ x y
  have h := compareOp_any x (fun i => x (9 + i)) y (fun i => y (9 + i)) (sortWorldK kc 12 w blk off m dk os)
  have ex : ∀ z : Nat → Int, ∀ j, j < 12 → cat 9 z (fun i => z (9 + i)) j = z j := fun z j hj => by
    by_cases e : j < 9
    · exact cat_lo _ _ e
    · obtain ⟨i, rfl⟩ : ∃ i, j = 9 + i := ⟨j - 9, by omega⟩
      exact cat_hi _ _ i
  rw [lexC_eq (ex x) (ex y)] at h
  exact h
theorem sort_raw (blk cap : Nat) (d : Array (Nat → Int)) (w : World) (hH : HoldsK kc 12 w blk 0 d) (hblk : blk < w.heap.size) (hsz : d.size ≤ 1000) :
    Calls Tryz.prog 106 #[.slice (some ⟨blk, 0, none⟩) d.size cap, .func (.func 98) #[] #[]] w fun e w' => e = .returned (.tuple #[]) ∧ ∃ d' n os, PermIn 0 d.size d d' ∧ SortedIn (ltOf (lexC 12)) 0 d.size d' ∧ w' = sortWorldK kc 12 w blk 0 n d' os := by
  have eg : ∀ args w, (callFunc 98 args).run Tryz.prog w = .ok (.enter 98 args) w := enters_of Tryz.func98 (by kernel_rfl) rfl
  exact AnyQ.slices_SortFunc sortL 12 Tryz.isAgg90 Tryz.sizeOf90 kc (fun _ => rfl) kc_one (lexC 12) swoLex 98 #[] blk 0 cap d w eg (cmpLays61 blk 0 d.size w) hH hblk (by omega)
/-- The list of the first n. -/
def arrOf (F : Nat → Nat → Int) (n : Nat) : Array (Nat → Int) := ((List.range n).map F).toArray
theorem arrOf_size (F : Nat → Nat → Int) (n : Nat) : (arrOf F n).size = n := by simp [arrOf]
theorem arrOf_get (F : Nat → Nat → Int) (n : Nat) {i : Nat} (hi : i < n) : (arrOf F n)[i]! = F i := by
  have hs := arrOf_size F n
  rw [getElem!_pos _ i (by omega)]
  simp [arrOf]
theorem holds_oprs {w : World} {base g n c : Nat} {F : Nat → Nat → Int} (h : Oprs w base (.slice (some ⟨g, 0, none⟩) n c) n F) : HoldsK kc 12 w g 0 (arrOf F n) := by
  rcases h.1.2 with ⟨h1, _⟩ | ⟨g', c', cur, e, hb, hh, hc1, hc2, hsz, ht⟩
  · cases h1
  cases e
  intro t ht2
  rw [size_flatK, arrOf_size] at ht2
  rw [get_flatK _ _ _ _ (by rw [arrOf_size]; exact ht2)]
  have hi : t / 12 < n := by omega
  rw [arrOf_get F n hi]
  have hk := kc_get (F (t / 12)) (t % 12) (by omega)
  have e2 : (kc (F (t / 12)))[t % 12]! = .int .i64 (F (t / 12) (t % 12)) := by
    rw [List.getElem!_eq_getElem?_getD, hk]; rfl
  rw [e2]
  have hg := kCells_get F hi (show t % 12 < 12 by omega)
  rw [show t / 12 * 12 + t % 12 = t by omega, ← ht, List.getElem?_take_of_lt (by omega)] at hg
  constructor
  · simp only [World.cell?, hh, Nat.zero_add]
    simpa using hg
  · simp [World.frozen?, hh]
theorem sorted_oprs {w : World} {base g n c m : Nat} {F : Nat → Nat → Int} {d' : Array (Nat → Int)} {os : Array Obj} (h : Oprs w base (.slice (some ⟨g, 0, none⟩) n c) n F) (hs : d'.size = n) :
    Oprs (sortWorldK kc 12 w g 0 m d' os) base (.slice (some ⟨g, 0, none⟩) n c) n (fun i => d'[i]!) ∧ w.grownBy (sortWorldK kc 12 w g 0 m d' os) (some g) := by
  rcases h.1.2 with ⟨h1, _⟩ | ⟨g', c', cur, e, hb, hh, hc1, hc2, hsz, ht⟩
  · cases h1
  cases e
  have hlt : g < w.heap.size := (Array.getElem?_eq_some_iff.1 hh).1
  have hg : (sortWorldK kc 12 w g 0 m d' os).heap[g]? = some (.cells (putCells id 0 (flatK kc 12 d') cur) 90 (0, 0)) := by
    unfold sortWorldK grow putRowK putRow mapBlock Go.Sort.ahead
    dsimp only
    rw [Array.getElem?_append_left (by simpa using hlt), Array.getElem?_modify, hh]
    simp [onCells]
  refine ⟨⟨⟨kCells_len _ _, .inr ⟨g, c, _, rfl, hb, hg, hc1, hc2, by simpa [putCells] using hsz, ?_⟩⟩, h.2⟩, ?_⟩
  · apply List.ext_getElem?
    intro t
    by_cases ht2 : t < n * 12
    · have hi : t / 12 < n := by omega
      have hk := kCells_get (fun i => d'[i]!) hi (show t % 12 < 12 by omega)
      rw [show t / 12 * 12 + t % 12 = t by omega] at hk
      rw [hk, List.getElem?_take_of_lt ht2]
      have hl : t < cur.size := by have := Nat.mul_le_mul_right 12 hc1; omega
      have hsf : (flatK kc 12 d').size = n * 12 := by rw [size_flatK, hs]
      have e2 : (kc d'[t / 12]!)[t % 12]! = .int .i64 (d'[t / 12]! (t % 12)) := by
        rw [List.getElem!_eq_getElem?_getD, kc_get _ _ (by omega)]; rfl
      have hfl := get_flatK kc 12 d' t (by rw [hs]; exact ht2)
      simp only [putCells, Array.getElem?_toList, Array.getElem?_mapIdx, Array.getElem?_eq_getElem hl, Option.map_some]
      rw [if_pos ⟨Nat.zero_le _, by omega⟩, Nat.sub_zero, hfl, e2]
      rfl
    · rw [List.getElem?_eq_none (by simp; omega), List.getElem?_eq_none (by rw [kCells_len]; omega)]
  · refine ⟨rfl, rfl, rfl, ?_, fun k hk hne => ?_⟩
    · unfold sortWorldK grow putRowK putRow mapBlock Go.Sort.ahead
      simp
    · unfold sortWorldK grow putRowK putRow mapBlock Go.Sort.ahead
      dsimp only
      rw [Array.getElem?_append_left (by simpa using hk), Array.getElem?_modify, if_neg (fun e => hne (by rw [e]))]
/-- The same operators, in another order; none less than one ahead of it. -/
def SortOf (n : Nat) (F G : Nat → Nat → Int) : Prop := ((List.range n).map G).Perm ((List.range n).map F) ∧ ∀ i j, i < j → j < n → ¬ lexC 12 (G j) (G i) < 0
theorem sort_any {w : World} {base n : Nat} {v : Value} {F : Nat → Nat → Int} (h : Oprs w base v n F) (hn : n ≤ 1000) :
    Calls Tryz.prog 106 #[v, .func (.func 98) #[] #[]] w fun e w' => e = .returned (.tuple #[]) ∧ (∃ G, Oprs w' base v n G ∧ SortOf n F G) ∧ w.grownBy w' v.ownBlock := by
  obtain ⟨g, c, rfl⟩ : ∃ g c, v = .slice (some ⟨g, 0, none⟩) n c := by
    rcases h.1.2 with ⟨h1, _⟩ | ⟨g, c, cur, e, _⟩
    · exact absurd h1 h.2
    · exact ⟨g, c, e⟩
  have hlt : g < w.heap.size := by
    rcases h.1.2 with ⟨h1, _⟩ | ⟨g', c', cur, e, hb, hh, _⟩
    · cases h1
    · cases e; exact (Array.getElem?_eq_some_iff.1 hh).1
  have hz := arrOf_size F n
  have hr := sort_raw g c (arrOf F n) w (holds_oprs h) hlt (by omega)
  rw [hz] at hr
  refine hr.mono ?_
  rintro e w' ⟨rfl, d', m, os, hp, hso, rfl⟩
  have hd : d'.size = n := by rw [hp.1, hz]
  obtain ⟨h1, h2⟩ := sorted_oprs (m := m) (os := os) h hd
  refine ⟨rfl, ⟨_, h1, ?_, fun i j hij hj hlt => ?_⟩, h2⟩
  · have e1 : (List.range n).map (fun i => d'[i]!) = (d'.extract 0 n).toList := by
      apply List.ext_getElem?
      intro i
      by_cases hi : i < n
      · rw [List.getElem?_map, List.getElem?_range hi]
        simp only [Option.map_some, Array.getElem?_toList]
        rw [Array.getElem?_extract]
        simp [hd, hi]
      · rw [List.getElem?_eq_none (by simp; omega), List.getElem?_eq_none (by simp; omega)]
    have e2 : ((arrOf F n).extract 0 n).toList = (List.range n).map F := by
      have : (arrOf F n).extract 0 n = arrOf F n := by
        have := Array.extract_size (xs := arrOf F n)
        rwa [hz] at this
      rw [this]
      simp [arrOf]
    rw [e1, ← e2]
    exact hp.2.2
  · have := hso i j (Nat.zero_le _) hij hj
    unfold ltOf at this
    rw [decide_eq_false_iff_not] at this
    exact this hlt
end Go.Proofs.YtiocneailhplkaaGreat
/-
  A map's operators, sorted, as the library and the program do it; walked.
-/
namespace Go.Proofs.YtiocneailhplkaaGreat
open Go.RowKit Go.Maps Go.Sort Go.Shelf

theorem keys_gives (F : Fence) (n : Nat) (h80 : F.fn 107) (hro : F.round = none) (hn : 1 ≤ n) (Bm b : Nat) (ks : List (Nat → Int)) (hks : ∀ k ∈ ks, small k) (w : World) (hBm : Bm < w.heap.size)
    (hm : w.cell? ⟨Bm, 0, none⟩ = some (.map (some b))) (hmv : MapV w b ks) :
    SeqGives F n Tryz.prog 107 #[.pointer (some ⟨Bm, 0, none⟩)] kV (fun ls => (ls.map kV).Perm (ks.map kV)) ks.length w := fun l J W hW hJ hY h0 =>
  keys80_in F n h80 hro hn l Bm b ks hks J hY W hJ ((hW.cell (p := ⟨Bm, 0, none⟩) hBm).trans hm) (hmv.below hW) h0
set_option maxRecDepth 100000 in
set_option maxHeartbeats 2000000 in
theorem appendSeq_in (F : Fence) (n : Nat) (h94 : F.fn 112) (hro : F.round = none) (hn : 2 ≤ n) (g : Nat) (lb : Array Value) (hFg : F.fn g) (eg : ∀ args w, (callFunc g args).run Tryz.prog w = .ok (.enter g args) w)
    (S : List (Nat → Int) → Prop) (N : Nat) (hN : N ≤ maxLen) (hNb : N * 96 ≤ 140737488355328) (w : World) (hseq : SeqGives F (n - 1) Tryz.prog g lb kV S N w) :
    CallsIn F n Tryz.prog 112 #[.slice none 0 0, .func (.func g) #[] lb] w fun e w' => ∃ (v : Value) (ss : List (Nat → Int)), e = .returned v ∧ S ss ∧ w'.ownsRow w.heap.size 90 12 v ss.length (lc ss) ∧ (v = .slice none 0 0 ↔ ss = []) ∧ Below w.heap.size w w' := by
  have h1 : 1 ≤ n := by omega
  have hne : (60 : Nat) ≠ 90 := by decide
  refine callsIn_of_wp_marks Tryz.func112 rfl h94 ?_ hro
  simp only [Tryz.ntmps112, List.size_toArray, List.length_cons, List.length_nil, Nat.reduceAdd, Nat.reduceSub, Array.replicate_succ, Array.replicate_zero, List.push_toArray, List.append_toArray, List.nil_append, List.cons_append]
  gi_wp2
  refine wpIn_rangeFunc ?_
  intro fn hfn
  rw [hro]
  obtain ⟨W0, hW0⟩ : ∃ W0, w.alloc (.cells #[.slice none 0 0] 60) = W0 := ⟨_, rfl⟩
  have hs0 : W0.heap.size = w.heap.size + 1 := by rw [← hW0]; simp
  have hv0 : W0.heap[w.heap.size]? = some (.cells #[.slice none 0 0] 60 (0, 0)) := by rw [← hW0]; exact World.alloc_heap_new w _
  have hb0 : Below w.heap.size w W0 := by rw [← hW0]; exact (Below.refl _ w).alloc (Nat.le_refl _) _
  rw [hW0]
  obtain ⟨W1, hW1⟩ : ∃ W1, (W0.alloc (.deferred (some []))).alloc (.loop (apRec fn (.func (.func g) #[] lb) w.heap.size W0.heap.size .ready none)) = W1 := ⟨_, rfl⟩
  have hold : ∀ k, k < W0.heap.size → W1.heap[k]? = W0.heap[k]? := fun k hk => by
    rw [← hW1]; exact (Below.heap_alloc _ _ k (by simp; omega)).trans (Below.heap_alloc _ _ k hk)
  have hb1 : Below w.heap.size w W1 := by rw [← hW1]; exact (hb0.alloc hb0.size _).alloc (by have := hb0.size; simp; omega) _
  have hs1 : W1.heap.size = W0.heap.size + 2 := by rw [← hW1]; simp
  have hM : ApAt w fn (.func (.func g) #[] lb) w.heap.size (W0.heap.size + 1) W0.heap.size [] W1 :=
    ⟨⟨_, (hold w.heap.size (by omega)).trans hv0, ⟨rfl, .inl ⟨rfl, rfl⟩⟩, by simp⟩,
     by rw [← hW1]; have := World.alloc_heap_new (W0.alloc (.deferred (some []))) (.loop (apRec fn (.func (.func g) #[] lb) w.heap.size W0.heap.size .ready none)); rwa [World.size_alloc] at this,
     by rw [← hW1]; exact (Below.heap_alloc _ _ _ (by simp)).trans (World.alloc_heap_new W0 _), hb1⟩
  refine ⟨W0.heap.size + 1, [{ target := .collected W0.heap.size, args := #[] }], W1, { target := .fn (.func g) lb, args := #[.func (.yield (W0.heap.size + 1)) #[] #[]] }, W1, g,
    #[.func (.yield (W0.heap.size + 1)) #[] #[]] ++ lb, W1, ?_, ?_, ?_, ?_, fun _ => h1, ?_⟩
  · rw [← hW1]; exact run_enterLoop_outer _ _ _ _ _
  · simp [resolve, go_sem]
  · intro f' hf'; simp [Target.leads] at hf'; subst hf'; exact hFg
  · simp [invoke, go_sem, eg]
  · refine (hseq (W0.heap.size + 1) (ApAt w fn (.func (.func g) #[] lb) w.heap.size (W0.heap.size + 1) W0.heap.size) W1 hb1 (ap_abides _ _ _ _ _ _ _ hb1.size)
      (fun pre x W hJ hl => apYield F (n - 1 - 1) w fn hfn _ w.heap.size (W0.heap.size + 1) W0.heap.size (by omega) (by omega) (by omega) (Nat.le_refl _) (by omega) N hN hNb pre x W hJ hl) hM).mono ?_
    rintro e W2 ⟨⟨v0, rfl⟩, ss, hS, h2⟩
    obtain ⟨v, hv, hrow, hnil⟩ := h2.box
    have hend := run_endLoop (P := Tryz.prog) h2.L (by simp [apRec])
    obtain ⟨W3, hW3⟩ : ∃ W3, W2.putObj (W0.heap.size + 1) (.loop { apRec fn (.func (.func g) #[] lb) w.heap.size W0.heap.size .ready none with state := .exhausted }) = W3 := ⟨_, rfl⟩
    rw [hW3] at hend
    have hg3 : W2.grownBy W3 (some (W0.heap.size + 1)) := by rw [← hW3]; exact grownBy_putObj_a _ _ _
    have hv3 : W3.heap[w.heap.size]? = some (.cells #[v] 60 (0, 0)) := by rw [← hW3]; exact (World.putObj_heap_other (by omega)).trans hv
    have hK3 : W3.heap[W0.heap.size]? = some (.deferred (some [])) := by rw [← hW3]; exact (World.putObj_heap_other (by omega)).trans h2.K
    have hrow3 := hrow.kept hg3 (ownsRow_ne_a hrow h2.L (fun cur e => by first | cases e | exact hne (Obj.cells.inj e).2.1))
    have hb3 : Below w.heap.size w W3 := h2.below.grown hg3 h2.below.size (fun k e => by cases e; omega)
    obtain ⟨hc3, hf3⟩ := cell_of_box_a hv3
    clear hW3
    refine ⟨none, W3, hend, ?_⟩
    gi_wp2
    rw [← hs0]
    refine ⟨by simp, .inl ⟨_, _, rfl, run_takeDeferred hK3, ?_⟩⟩
    exact ⟨_, results_tmp rfl _ _ _, v, ss, rfl, hS, hrow3.kept (grownBy_putObj_a _ _ _) (ownsRow_ne_a hrow3 hK3 (fun cur e => by first | cases e | exact hne (Obj.cells.inj e).2.1)), hnil, hb3.grown (grownBy_putObj_a _ _ _) hb3.size (fun k e => by cases e; omega)⟩
theorem enters94 : ∀ args w, (callFunc 112 args).run Tryz.prog w = .ok (.enter 112 args) w := fun _ _ => by kernel_rfl
theorem enters80 : ∀ args w, (callFunc 107 args).run Tryz.prog w = .ok (.enter 107 args) w := fun _ _ => by kernel_rfl
set_option maxHeartbeats 1000000 in
theorem collect_any (S : List (Nat → Int) → Prop) (lb : Array Value) (N : Nat) (hN : N ≤ 100000) (w : World) (hseq : SeqGives Fence.wide 2 Tryz.prog 107 lb kV S N w) :
    Calls Tryz.prog 105 #[.func (.func 107) #[] lb] w fun e w' => ∃ (v : Value) (ss : List (Nat → Int)), e = .returned v ∧ S ss ∧ w'.ownsRow w.heap.size 90 12 v ss.length (lc ss) ∧ (v = .slice none 0 0 ↔ ss = []) ∧ Below w.heap.size w w' := by
  have H := (callsIn_wide (n := 3)).1 (appendSeq_in Fence.wide 3 trivial rfl (by omega) 107 lb trivial enters80 S N (by unfold maxLen; omega) (by omega) w hseq)
  go_enter Tryz.func105, Tryz.ntmps105
  go_wp2_with fail
  refine H.mono ?_
  rintro e w' ⟨v, ss, rfl, hS, hrow, hnil, hb⟩
  go_wp2
  go_ret
  exact ⟨v, ss, rfl, hS, hrow, hnil, hb⟩
theorem keys_any (b : Nat) (w : World) : Calls Tryz.prog 97 #[.map (some b)] w fun e w' => e = .returned (.func (.func 107) #[] #[.pointer (some ⟨w.heap.size, 0, none⟩)]) ∧ w' = w.alloc (.cells #[.map (some b)] 117) := by
  go_enter Tryz.func97, Tryz.ntmps97
  go_wp2
  go_ret
  exact ⟨rfl, rfl⟩
/-- A list, by places. -/
def nth (l : List (Nat → Int)) (i : Nat) : Nat → Int := l.getD i (fun _ => 0)
theorem lc_kCells (l : List (Nat → Int)) : lc l = kCells (nth l) l.length := by
  have h : ∀ n, n ≤ l.length → lc (l.take n) = kCells (nth l) n := by
    intro n
    induction n with
    | zero => intro _; rfl
    | succ n ih =>
      intro hn
      have e : l.take (n + 1) = l.take n ++ [nth l n] := by
        rw [List.take_add_one]
        simp [nth, List.getD_eq_getElem?_getD, List.getElem?_eq_getElem (show n < l.length by omega)]
      rw [e, lc_snoc, ih (by omega)]
      rfl
  have := h l.length (Nat.le_refl _)
  rwa [List.take_length] at this
theorem map_nth (l : List (Nat → Int)) : (List.range l.length).map (nth l) = l := by
  apply List.ext_getElem
  · simp
  · intro i h1 h2
    simp [nth, List.getD_eq_getElem?_getD, h2]
set_option maxHeartbeats 1000000 in
theorem sortedFunc_any {w : World} {b Bm : Nat} {ks : List (Nat → Int)} (hm : MapV w b ks) (hks : ∀ k ∈ ks, small k) (hBm : Bm < w.heap.size) (hc : w.cell? ⟨Bm, 0, none⟩ = some (.map (some b))) (hne : ks ≠ []) (hl : ks.length ≤ 1000) :
    Calls Tryz.prog 96 #[.func (.func 107) #[] #[.pointer (some ⟨Bm, 0, none⟩)], .func (.func 98) #[] #[]] w fun e w' => ∃ v G, e = .returned v ∧ Oprs w' w.heap.size v ks.length G ∧ (((List.range ks.length).map G).map kV).Perm (ks.map kV) ∧ (∀ i j, i < j → j < ks.length → ¬ lexC 12 (G j) (G i) < 0) ∧ Below w.heap.size w w' := by
  have H := collect_any (fun ls => (ls.map kV).Perm (ks.map kV)) #[.pointer (some ⟨Bm, 0, none⟩)] ks.length (by omega) w (keys_gives Fence.wide 2 trivial rfl (by omega) Bm b ks hks w hBm hc hm)
  go_enter Tryz.func96, Tryz.ntmps96
  go_wp2_with fail
  refine H.mono ?_
  rintro e w1 ⟨v, ss, rfl, hS, hrow, hnil, hb⟩
  have hlen : ss.length = ks.length := by have := hS.length_eq; simpa using this
  have ho : Oprs w1 w.heap.size v ks.length (nth ss) := by
    refine ⟨?_, fun e => ?_⟩
    · rw [lc_kCells, hlen] at hrow
      exact hrow
    · have := hnil.1 e
      rw [this] at hlen
      exact hne (List.length_eq_zero_iff.1 hlen.symm)
  clear hrow hnil H
  go_wp2_with fail
  refine (sort_any ho (by omega)).mono ?_
  rintro e w2 ⟨rfl, ⟨G, hG, hp, hs⟩, hg⟩
  go_wp2
  go_ret
  refine ⟨v, rfl, G, hG, ?_, hs, hb.grown hg hb.size (fun k e => ownBlock_ge ho.1 e)⟩
  have h2 : (List.range ks.length).map (nth ss) = ss := by rw [← hlen]; exact map_nth ss
  rw [h2] at hp
  simpa using (hp.map kV).trans hS
set_option maxHeartbeats 1000000 in
theorem sorted_any {w : World} {b : Nat} {ks : List (Nat → Int)} (hm : MapV w b ks) (hks : ∀ k ∈ ks, small k) (hne : ks ≠ []) (hl : ks.length ≤ 1000) :
    Calls Tryz.prog 85 #[.map (some b)] w fun e w' => ∃ v G, e = .returned v ∧ Oprs w' w.heap.size v ks.length G ∧ (((List.range ks.length).map G).map kV).Perm (ks.map kV) ∧ (∀ i j, i < j → j < ks.length → ¬ lexC 12 (G j) (G i) < 0) ∧ Below w.heap.size w w' := by
  go_enter Tryz.func85, Tryz.ntmps85
  go_wp2_with fail
  refine (keys_any b w).mono ?_
  rintro e w1 ⟨rfl, rfl⟩
  have hb1 : Below w.heap.size w (w.alloc (.cells #[.map (some b)] 117)) := below_alloc _ _
  have hc : (w.alloc (.cells #[.map (some b)] 117)).cell? ⟨w.heap.size, 0, none⟩ = some (.map (some b)) := (at_new 117 w #[.map (some b)]).cell 0 rfl
  have hlt : w.heap.size < (w.alloc (.cells #[.map (some b)] 117)).heap.size := by simp
  obtain ⟨w1, hw1⟩ : ∃ w1, w.alloc (.cells #[.map (some b)] 117) = w1 := ⟨_, rfl⟩
  rw [hw1] at hb1 hc hlt ⊢
  go_wp2_with fail
  refine (sortedFunc_any (hm.below hb1) hks hlt hc hne hl).mono ?_
  rintro e w2 ⟨v, G, rfl, hG, hp, hs, hb⟩
  go_wp2
  go_ret
  exact ⟨v, rfl, G, ⟨ownsRow_base_a hG.1 hb1.size, hG.2⟩, by simpa using hp, hs, hb1.trans (hb.mono hb1.size)⟩
end Go.Proofs.YtiocneailhplkaaGreat
/-
  A queue of operators; is an operator in a map?
-/
namespace Go.Proofs.YtiocneailhplkaaGreat
open Go.RowKit

/-- A queue: part of a block of the program's own. -/
def Que (w : World) (base g off cap : Nat) (q : List (Nat → Int)) : Prop :=
  base ≤ g ∧ q.length ≤ cap ∧ cap ≤ maxLen ∧ ∃ cur : Array Value, w.heap[g]? = some (.cells cur 90 (0, 0)) ∧ off + cap * 12 ≤ cur.size ∧ ∀ j u, (lc q)[j]? = some u → cur[off + j]? = some u
theorem Que.lt {w : World} {base g off cap : Nat} {q : List (Nat → Int)} (h : Que w base g off cap q) : g < w.heap.size := by
  obtain ⟨-, -, -, cur, h1, -⟩ := h
  exact (Array.getElem?_eq_some_iff.1 h1).1
theorem Que.kept {w w' : World} {base g off cap : Nat} {q : List (Nat → Int)} {row : Option Nat} (h : Que w base g off cap q) (hg : w.grownBy w' row) (hne : some g ≠ row) : Que w' base g off cap q := by
  have hl := h.lt
  obtain ⟨a, b, c, cur, h1, h2, h3⟩ := h
  exact ⟨a, b, c, cur, (hg.block g hl hne).trans h1, h2, h3⟩
theorem Que.below {w w' : World} {base g off cap : Nat} {q : List (Nat → Int)} (h : Que w base g off cap q) (hb : Below w.heap.size w w') : Que w' base g off cap q := by
  have hl := h.lt
  obtain ⟨a, b, c, cur, h1, h2, h3⟩ := h
  exact ⟨a, b, c, cur, (hb.block g hl).trans h1, h2, h3⟩
theorem lc_len (l : List (Nat → Int)) : (lc l).length = l.length * 12 := by
  induction l with
  | nil => rfl
  | cons a l ih => simp [lc, kc, ih]; omega
theorem lc_map (F : Nat → Nat → Int) (n : Nat) : lc ((List.range n).map F) = kCells F n := by
  induction n with
  | zero => rfl
  | succ n ih => rw [List.range_succ, List.map_append, List.map_singleton, lc_snoc, ih]; rfl
theorem Que.of_oprs {w : World} {base n : Nat} {v : Value} {F : Nat → Nat → Int} (h : Oprs w base v n F) : ∃ g cap, v = .slice (some ⟨g, 0, none⟩) n cap ∧ Que w base g 0 cap ((List.range n).map F) := by
  rcases h.1.2 with ⟨h1, _⟩ | ⟨g, c, cur, e, hb, hh, h3, h4, h5, h6⟩
  · exact absurd h1 h.2
  · refine ⟨g, c, e, hb, by simpa using h3, h4, cur, hh, by omega, fun j u hu => ?_⟩
    rw [lc_map, ← h6, List.getElem?_take] at hu
    split at hu
    · simpa using hu
    · cases hu
theorem Que.head {w : World} {base g off cap : Nat} {x : Nat → Int} {q : List (Nat → Int)} (h : Que w base g off cap (x :: q)) (j : Nat) (hj : j < 12) : w.cell? ⟨g, off + j, none⟩ = some (.int .i64 (x j)) := by
  obtain ⟨-, -, -, cur, h1, h2, h3⟩ := h
  have := h3 j (.int .i64 (x j)) (by show (kc x ++ lc q)[j]? = _; rw [List.getElem?_append_left (by simp [kc]; omega)]; exact kc_get x j hj)
  simp [World.cell?, h1, this]
theorem Que.tail {w : World} {base g off cap : Nat} {x : Nat → Int} {q : List (Nat → Int)} (h : Que w base g off cap (x :: q)) : Que w base g (if cap = 1 then off else off + 12) (cap - 1) q := by
  obtain ⟨a, b, c, cur, h1, h2, h3⟩ := h
  simp at b
  refine ⟨a, by omega, by omega, cur, h1, ?_, fun j u hu => ?_⟩
  · split <;> omega
  · by_cases e : cap = 1
    · have : q = [] := List.length_eq_zero_iff.1 (by omega)
      subst this
      simp [lc] at hu
    · rw [if_neg e]
      have := h3 (12 + j) u (by show (kc x ++ lc q)[12 + j]? = _; rw [List.getElem?_append_right (by simp [kc])]; simpa [kc] using hu)
      rwa [← Nat.add_assoc] at this
theorem Que.app {w : World} {base g off cap p ty : Nat} {x : Nat → Int} {q : List (Nat → Int)} (h : Que w base g off cap q) (hb : base ≤ w.heap.size) (hx : ∀ j u, (kc x)[j]? = some u → w.cell? ((⟨p, 0, none⟩ : Addr).add j) = some u) (hq : q.length ≤ 1000) :
    ∃ g' off' cap' w', (Builtin.append_ #[60, 60] ty #[.slice (some ⟨g, off, none⟩) q.length cap, .slice (some ⟨p, 0, none⟩) 1 1]).run Tryz.prog w = .ok (.slice (some ⟨g', off', none⟩) (q.length + 1) cap') w' ∧ Que w' base g' off' cap' (q ++ [x]) ∧ w.grownBy w' (some g) ∧ (g' = g ∨ g' = w.heap.size) := by
  obtain ⟨i, hi, hz0, hz1, hz2⟩ := info_parts Tryz.info90
  obtain ⟨a, b, c, cur, h1, h2, h3⟩ := h
  have hl : (kc x).length = 1 * i.size := by rw [hz1]; rfl
  have hql := lc_len q
  by_cases hr : q.length + 1 ≤ cap
  · have hf := run_firstCells_some (P := Tryz.prog) w i.size 1 ⟨p, 0, none⟩ 1 1 (kc x) hl hx
    have hst := run_storeCells_at Tryz.prog g (off + q.length * i.size) 90 (kc x) 0 cur w h1 (by rw [hz1, hl, hz1]; omega) (kc_one x)
    simp only [Nat.add_zero] at hst
    have hrun : (Builtin.append_ #[60, 60] ty #[.slice (some ⟨g, off, none⟩) q.length cap, .slice (some ⟨p, 0, none⟩) 1 1]).run Tryz.prog w = .ok (.slice (some ⟨g, off, none⟩) (q.length + 1) cap) (w.setRow g (cur.toList.take (off + q.length * i.size) ++ kc x ++ cur.toList.drop (off + q.length * i.size + (kc x).length)).toArray) := by
      simp [Builtin.append_, run_underlying Tryz.underlying60, sizeOf, typeInfo, hi, Builtin.lenOf, hr, hf, Addr.add_lit, hst]
    refine ⟨g, off, cap, _, hrun, ⟨a, by simpa using hr, c, _, setRow_heap w g cur _ 90 _ h1, ?_, ?_⟩, ⟨rfl, rfl, rfl, by simp, fun k _ hk => setRow_other w g k _ (fun e => hk (by simp [e]))⟩, .inl rfl⟩
    · simp only [List.size_toArray, List.length_append, List.length_take, List.length_drop, Array.length_toList, hl, hz1]
      omega
    · intro j u hu
      rw [lc_snoc] at hu
      rw [List.getElem?_toArray, hz1]
      by_cases hj : j < (lc q).length
      · rw [List.getElem?_append_left hj] at hu
        have := h3 j u hu
        rw [List.append_assoc, List.getElem?_append_left (by simp; omega), List.getElem?_take_of_lt (by omega)]
        simpa using this
      · rw [List.getElem?_append_right (by omega)] at hu
        have hlt : j - (lc q).length < (kc x).length := (List.getElem?_eq_some_iff.1 hu).1
        have hk12 : (kc x).length = 12 := rfl
        rw [List.getElem?_append_left (by simp [hk12]; omega), List.getElem?_append_right (by simp; omega)]
        simp only [List.length_take, Array.length_toList]
        rw [show off + j - min (off + q.length * 12) cur.size = j - (lc q).length by omega]
        exact hu
  · have hg := run_append_grow (P := Tryz.prog) w 60 ty 90 i _ Tryz.underlying60 hi hz0 ⟨g, off, none⟩ q.length cap (lc q) (by rw [hz1]; exact hql)
      (fun j u hu => by rw [Addr.add_lit]; simp only [World.cell?, h1]; simpa using h3 j u hu) ⟨p, 0, none⟩ 1 1 (kc x) hl hx (by omega) (by omega) (by rw [hz2]; exact growslice_fits (by omega) (by omega))
    have hge := grownCap_ge w (q.length + 1) cap 90
    have hcm := grownCap_le_maxLen w (q.length + 1) cap 90 (by unfold maxLen; omega)
    refine ⟨w.heap.size, 0, _, _, hg, ⟨hb, by simpa using hge, hcm, _, heap_alloc_new w.drew _, ?_, ?_⟩, ⟨rfl, rfl, rfl, by simp, fun k hk _ => Below.heap_alloc w.drew _ k hk⟩, .inr rfl⟩
    · have hk12 : (kc x).length = 12 := rfl
      simp only [Array.size_append, List.size_toArray, size_zeroCells, hql, hk12]
      have : (Value.agg (opA (fun _ => 0) (fun _ => 0))).cells.size = 12 := rfl
      rw [this]
      omega
    · intro j u hu
      rw [lc_snoc] at hu
      have hjl : j < (lc q ++ kc x).length := (List.getElem?_eq_some_iff.1 hu).1
      rw [Nat.zero_add, Array.getElem?_append_left (by simpa using hjl)]
      simpa using hu
/-- Is it there? -/
theorem have_any {w : World} {b : Nat} {ks : List (Nat → Int)} {k : Nat → Int} (h : MapV w b ks) (hk : small k) :
    Calls Tryz.prog 83 #[.map (some b), kV k] w fun e w' => (∃ r, e = .returned (.bool r) ∧ (r = true ↔ kV k ∈ ks.map kV)) ∧ Below w.heap.size w w' := by
  obtain ⟨W1, hW1, a1, b1, -⟩ := boxed w 90 (kc k).toArray
  obtain ⟨z, r, hr, hiff⟩ := (h.below b1).look hk
  obtain ⟨d0, d1, d2, d3, d4, d5, d6, d7, d8, d9, d10, d11⟩ := At.openk (x := k) a1
  unfold kV at hr ⊢
  unfold kc at hr hW1 ⊢
  go_enter Tryz.func83, Tryz.ntmps83
  go_wp2
  go_ret
  exact ⟨⟨r, rfl, hiff⟩, b1⟩
end Go.Proofs.YtiocneailhplkaaGreat
