/-
  A map's operators given one by one, as the library does; walked.
-/
import Derived.Test.YtiocneailhplkaaGreatMI
import Derived.Shelf.AbstractIn
import Derived.RangeFuncSeq
import Derived.RangeFuncGives
import Derived.Sort.MapsRangeIn
import Derived.Sort.KeysCollected
import Derived.WalkKit
import Derived.OwnWalkIn
import Derived.TacticsInMore
import Derived.RegionIn
import Derived.LoopNIn
import Derived.LoopIn
namespace Go.Proofs.YtiocneailhplkaaGreat
open Go.RowKit Go.Maps Go.Sort Go.Shelf
open Go.WideElems (Fit rd rg pl rd_key rd_val rg_of)

theorem mapM_some {α β : Type} {f : α → Option β} : ∀ {l : List α} {r : List β}, l.mapM f = some r → ∀ x ∈ l, ∃ y, f x = some y := by
  intro l
  induction l with
  | nil => intro r _ x hx; cases hx
  | cons a l ih =>
    intro r h x hx
    rw [List.mapM_cons] at h
    simp only [Option.bind_eq_bind, Option.bind_eq_some_iff] at h
    obtain ⟨y, hy, r', hr', -⟩ := h
    rcases List.mem_cons.1 hx with rfl | hx
    · exact ⟨y, hy⟩
    · exact ih hr' x hx
set_option maxRecDepth 100000 in
theorem lit_inv {d : Nat} {cs : List Value} {ls : List Lit} (h : Tryz.prog.keyLits (d + 1) 2 cs = some ls) : ∃ n, cs = [.int .i64 n] := by
  unfold Program.keyLits at h
  rw [Tryz.underlying2] at h
  rcases cs with _ | ⟨c, _ | ⟨c2, cs⟩⟩
  · simp at h
  · cases c with
    | int q n =>
      simp only at h
      split at h
      · rename_i hq
        exact ⟨n, by rw [hq.1]⟩
      · cases h
    | _ => simp at h
  · simp at h
theorem arr_inv {d n : Nat} {t : TypeId} {cs : List Value} {ls : List Lit} (ht : Tryz.prog.underlying t = some (.array n 2)) (h : Tryz.prog.keyLits (d + 2) t cs = some ls) (hc : Tryz.prog.cellsOf t = n) : cs.length = n ∧ ∀ i, i < n → ∃ z, cs[i]? = some (.int .i64 z) := by
  unfold Program.keyLits at h
  rw [ht] at h
  dsimp only at h
  split at h
  · rename_i hl
    rw [hc] at hl
    refine ⟨hl, fun i hi => ?_⟩
    simp only [Option.map_eq_some_iff] at h
    obtain ⟨r, hr, -⟩ := h
    obtain ⟨y, hy⟩ := mapM_some hr i (List.mem_range.2 hi)
    rw [cells2', Nat.mul_one] at hy
    obtain ⟨z, hz⟩ := lit_inv hy
    refine ⟨z, ?_⟩
    have h0 : ((cs.drop i).take 1)[0]? = some (.int .i64 z) := by rw [hz]; rfl
    rw [List.getElem?_take_of_lt (by omega), List.getElem?_drop] at h0
    simpa using h0
  · cases h
set_option maxRecDepth 100000 in
theorem invK (key : Value) (kl : Lit) (h : keyOf Tryz.prog 90 key = some kl) : ∃ k, key = kV k := by
  have hS : Tryz.prog.underlying 90 = some (.struct (Tryz.prog.fieldsOf 90)) := by kernel_rfl
  have hT : ∃ d, Tryz.prog.types.size + 1 = d + 3 := ⟨Tryz.prog.types.size - 2, by (have h3 : 3 ≤ Tryz.prog.types.size := of_decide_eq_true (by kernel_rfl)); omega⟩
  obtain ⟨d, hd⟩ := hT
  unfold keyOf at h
  simp only [hS] at h
  split at h
  · rename_i hf
    rw [Bool.and_eq_true] at hf
    obtain ⟨cs, rfl⟩ : ∃ cs, key = .agg cs := by
      have h2 := hf.2
      unfold Value.formed at h2
      split at h2
      · exact ⟨_, rfl⟩
      · cases h2
      · simp only [hS] at h2
        cases h2
    rw [hd] at h
    unfold Program.keyLits at h
    simp only [Tryz.underlying90] at h
    simp only [Option.map_eq_some_iff] at h
    obtain ⟨ls, hls, -⟩ := h
    split at hls
    · rename_i hl
      simp only [Option.map_eq_some_iff] at hls
      obtain ⟨r, hr, -⟩ := hls
      have h12 : cs.size = 12 := by have := hl.1; rw [cells65] at this; simpa [Value.cells] using this
      obtain ⟨y1, hy1⟩ := mapM_some hr _ (List.mem_cons_self ..)
      obtain ⟨y2, hy2⟩ := mapM_some hr _ (List.mem_cons_of_mem _ (List.mem_cons_self ..))
      dsimp only at hy1 hy2
      obtain ⟨-, g1⟩ := arr_inv (by kernel_rfl) hy1 cells61
      obtain ⟨-, g2⟩ := arr_inv (by kernel_rfl) hy2 cells63
      have hall : ∀ j, j < 12 → ∃ z, cs[j]? = some (.int .i64 z) := by
        intro j hj
        by_cases h9 : j < 9
        · obtain ⟨z, hz⟩ := g1 j h9
          rw [cells61, List.getElem?_take_of_lt h9, List.getElem?_drop] at hz
          exact ⟨z, by simpa [Value.cells] using hz⟩
        · obtain ⟨i, rfl⟩ : ∃ i, j = 9 + i := ⟨j - 9, by omega⟩
          obtain ⟨z, hz⟩ := g2 i (by omega)
          rw [cells63, List.getElem?_take_of_lt (by omega), List.getElem?_drop] at hz
          exact ⟨z, by simpa [Value.cells] using hz⟩
      have hch : ∃ k : Nat → Int, ∀ j, j < 12 → cs[j]? = some (.int .i64 (k j)) := by
        refine ⟨fun j => if hj : j < 12 then (hall j hj).choose else 0, fun j hj => ?_⟩
        simp only [hj, dite_true]
        exact (hall j hj).choose_spec
      obtain ⟨k, hk⟩ := hch
      refine ⟨k, ?_⟩
      unfold kV
      congr 1
      apply Array.ext_getElem?
      intro j
      by_cases hj : j < 12
      · rw [hk j hj]
        have := kc_get k j hj
        simpa using this.symm
      · rw [Array.getElem?_eq_none (by omega), Array.getElem?_eq_none (by simp [kc]; omega)]
    · cases hls
  · cases h
/-- What has come so far, of a map's keys: those that are not left. -/
def Coll (ks : List (Nat → Int)) (left : Lit → Bool) (ls : List (Nat → Int)) : Prop :=
  (ls.map kV).Nodup ∧ ∀ v, v ∈ ls.map kV ↔ v ∈ ks.map kV ∧ ∃ l, keyOf Tryz.prog 90 v = some l ∧ left l = false
theorem Coll.step {ks ls : List (Nat → Int)} {left : Lit → Bool} {k : Nat → Int} {kl : Lit} (h : Coll ks left ls) (hk : keyOf Tryz.prog 90 (kV k) = some kl) (hl : left kl = true) (hm : kV k ∈ ks.map kV) : Coll ks (fun z => left z && !z.sameKey kl) (ls ++ [k]) := by
  have hkey := keyed65.key hk
  constructor
  · rw [List.map_append, List.map_singleton]
    refine List.nodup_append.2 ⟨h.1, by simp, fun a ha b hb => ?_⟩
    simp at hb
    subst hb
    intro e
    rw [e] at ha
    obtain ⟨-, l, hl2, hl3⟩ := (h.2 _).1 ha
    rw [hk] at hl2
    cases hl2
    rw [hl] at hl3
    cases hl3
  · intro v
    rw [List.map_append, List.mem_append, List.map_singleton, List.mem_singleton]
    constructor
    · rintro (hv | rfl)
      · obtain ⟨a, l, b, c⟩ := (h.2 v).1 hv
        exact ⟨a, l, b, by simp [c]⟩
      · exact ⟨hm, kl, hk, by simp [Go.WideAt.sameKey_self hkey]⟩
    · rintro ⟨a, l, b, c⟩
      simp only [Bool.and_eq_false_iff, Bool.not_eq_false'] at c
      rcases c with c | c
      · exact .inl ((h.2 v).2 ⟨a, l, b, c⟩)
      · rw [Go.WideAt.sameKey_eq c] at b
        exact .inr (keyed65.inj b hk)
theorem Coll.start {ks : List (Nat → Int)} {left : Lit → Bool} (hseen : ∀ v l, v ∈ ks.map kV → keyOf Tryz.prog 90 v = some l → left l = true) : Coll ks left [] := by
  refine ⟨List.nodup_nil, fun v => ⟨fun h => (by cases h), ?_⟩⟩
  rintro ⟨a, l, hl, c⟩
  rw [hseen v l a hl] at c
  cases c
theorem Coll.done {w : World} {b : Nat} {ks ls : List (Nat → Int)} {left : Lit → Bool} (h : Coll ks left ls) (hm : MapV w b ks) (hks : ∀ k ∈ ks, small k) (hl : ∀ l, left l = false) : (ls.map kV).Perm (ks.map kV) := by
  rw [List.perm_ext_iff_of_nodup h.1 hm.nodup]
  intro v
  rw [h.2 v]
  refine ⟨fun x => x.1, fun x => ⟨x, ?_⟩⟩
  obtain ⟨k, hk, rfl⟩ := List.mem_map.1 x
  obtain ⟨l, he⟩ := key_kV (hks k hk)
  exact ⟨l, he, hl l⟩
theorem has_key {w : World} {b n : Nat} {D : DataW Unit} {ks : List (Nat → Int)} {v : Value} {l : Lit} (hown : w.ownsMap Tryz.prog 90 RE b n D) (hm : MapV w b ks) (hv : v ∈ ks.map kV) (hl : keyOf Tryz.prog 90 v = some l) : Go.Maps.has D l = true := by
  obtain ⟨es, clock, hb, F, hs, rfl⟩ := hown
  obtain ⟨es', clock', hb', -, h3⟩ := hm
  rw [hb] at hb'
  cases hb'
  rw [← h3] at hv
  obtain ⟨x, hx, rfl⟩ := List.mem_map.1 hv
  have hz : (zeroValue 2).run Tryz.prog w = .ok (.int .i64 0) w := by kernel_rfl
  rcases Go.Maps.fit_look true keyed65 und75 hz hb F hl with ⟨-, hno, -⟩ | ⟨e0, y, -, -, -, -, hat, -⟩
  · exact absurd rfl (hno x hx)
  · exact has_true_of_atKey (fun z => hat z)
theorem mem_of_atKey {w : World} {b n : Nat} {D y : DataW Unit} {ks : List (Nat → Int)} {v : Value} {l : Lit} (hown : w.ownsMap Tryz.prog 90 RE b n D) (hm : MapV w b ks) (hl : keyOf Tryz.prog 90 v = some l) (hat : ∀ zd, D.atKey l zd = y) : v ∈ ks.map kV := by
  obtain ⟨es, clock, hb, F, hs, rfl⟩ := hown
  obtain ⟨es', clock', hb', -, h3⟩ := hm
  rw [hb] at hb'
  cases hb'
  have hz : (zeroValue 2).run Tryz.prog w = .ok (.int .i64 0) w := by kernel_rfl
  rcases Go.Maps.fit_look true keyed65 und75 hz hb F hl with ⟨-, -, hno⟩ | ⟨e0, y', hm, he, -⟩
  · have h1 := (hno .nil).symm.trans (hat .nil)
    have h2 := (hno (.lit (.bool true))).symm.trans (hat (.lit (.bool true)))
    rw [← h1] at h2
    cases h2
  · rw [← h3]
    exact List.mem_map.2 ⟨e0, hm, he⟩
theorem MapV.own {w : World} {b : Nat} {ks : List (Nat → Int)} (h : MapV w b ks) : ∃ n D, w.ownsMap Tryz.prog 90 RE b n D ∧ Go.Maps.size D = ks.length := by
  obtain ⟨es, clock, hb, F, h3⟩ := h
  refine ⟨es.size, _, ⟨es, clock, hb, F, Nat.le_refl _, rfl⟩, ?_⟩
  have := congrArg List.length h3
  simp at this
  simp [Go.Maps.size, length_sorted, this]
end Go.Proofs.YtiocneailhplkaaGreat
/-
  The library's iterator over a map's keys, at operators; walked.
-/
namespace Go.Proofs.YtiocneailhplkaaGreat
open Go.RowKit Go.Maps Go.Sort Go.Shelf

/-- An operator's value, written out. -/
def kW (k : Nat → Int) : Value := .agg #[.int .i64 (k 0), .int .i64 (k 1), .int .i64 (k 2), .int .i64 (k 3), .int .i64 (k 4), .int .i64 (k 5), .int .i64 (k 6), .int .i64 (k 7), .int .i64 (k 8), .int .i64 (k 9), .int .i64 (k 10), .int .i64 (k 11)]
theorem kW_eq (k : Nat → Int) : kW k = kV k := rfl
set_option maxRecDepth 100000 in
set_option maxHeartbeats 2000000 in
theorem keys80_in (F : Fence) (n : Nat) (h80 : F.fn 107) (hro : F.round = none) (hn : 1 ≤ n) (l Bm b : Nat) (ks : List (Nat → Int)) (hks : ∀ k ∈ ks, small k) (J : List (Nat → Int) → World → Prop)
    (hY : ∀ pre x W, J pre W → pre.length < ks.length → YieldAt F (n - 1) Tryz.prog l #[kV x] W fun e W' => e = .returned (.bool true) ∧ J (pre ++ [x]) W' ∧ KeepsWalks W W')
    (W : World) (hJ : AbidesFrom W.heap.size J) (hm : W.cell? ⟨Bm, 0, none⟩ = some (.map (some b))) (hmv : MapV W b ks) (h0 : J [] W) :
    CallsIn F n Tryz.prog 107 #[.func (.yield l) #[] #[], .pointer (some ⟨Bm, 0, none⟩)] W fun e W' => (∃ v, e = .returned v) ∧ ∃ ls : List (Nat → Int), (ls.map kV).Perm (ks.map kV) ∧ J ls W' := by
  obtain ⟨nn, D0, hown, hsize⟩ := hmv.own
  refine callsIn_of_wp Tryz.func107 rfl h80 ?_ hro
  simp only [Tryz.ntmps107, List.size_toArray, List.length_cons, List.length_nil, Nat.reduceAdd, Nat.reduceSub, Array.replicate_succ, Array.replicate_zero, List.push_toArray, List.append_toArray, List.nil_append, List.cons_append]
  gi_wp2_with (first
    | (gi_at_range; refine wpListIn_range_own _ rfl _ 117 rfl 90 2 keyed65 und75 _ b nn _ rfl hown ?_; intro w0 hrg0 hg0 hs0)
    | gi_in)
  go_frame
  gi_loopw [3] (fun _ wr => ∃ (left : Lit → Bool) (cnt : Nat) (ss : List (Nat → Int)), wr.ranges Tryz.prog 90 RE b W.heap.size nn D0 left cnt ∧ ss.length + cnt ≤ ks.length ∧ Coll ks left ss ∧ J ss wr)
    (fun _ wr => wr.rangeLeft b W.heap.size)
  case atStart =>
    exact ⟨_, _, [], hrg0, by simp [hsize], Coll.start (fun v l hv hl => has_key hown hmv hv hl), hJ [] W w0 none h0 hg0 (fun r e => by cases e)⟩
  case round =>
    obtain ⟨left, cnt, ss, hrg, hcs, hC, hJs⟩ := hrel
    gi_wp2_with (first
      | (gi_at_next; refine wpListIn_next_ranges _ rfl _ rfl 90 keyed65 RE kW id (fun key kl hk => invK key kl hk) (fun v _ _ => ⟨v, rfl⟩) b W.heap.size nn _ _ _ rfl hrg ?_ ?_)
      | gi_in)
    · intro hc0 hl0
      gi_wp2
      go_end0
      exact ⟨⟨_, rfl⟩, ss, hC.done hmv hks hl0, hJs⟩
    · intro x c kl yd yp w2 cnt2 hkey hlk hv hat hrg2 hlt hg2 hs2 hen
      have hJ2 : J ss w2 := hJ ss wr w2 (some W.heap.size) hJs hg2 (fun r e => by cases e; exact ⟨Nat.le_refl _, hrg.iter_walk⟩)
      have hmem : kV x ∈ ks.map kV := mem_of_atKey hown hmv hkey hat
      have hrg3 := hrg2.of_walks (KeepsWalks.alloc w2 (.cells #[.int .i64 (x 0), .int .i64 (x 1), .int .i64 (x 2), .int .i64 (x 3), .int .i64 (x 4), .int .i64 (x 5), .int .i64 (x 6), .int .i64 (x 7), .int .i64 (x 8), .int .i64 (x 9), .int .i64 (x 10), .int .i64 (x 11)] 90))
      have hJ3 := hJ ss w2 _ none hJ2 (World.grownBy_alloc w2 (.cells #[.int .i64 (x 0), .int .i64 (x 1), .int .i64 (x 2), .int .i64 (x 3), .int .i64 (x 4), .int .i64 (x 5), .int .i64 (x 6), .int .i64 (x 7), .int .i64 (x 8), .int .i64 (x 9), .int .i64 (x 10), .int .i64 (x 11)] 90) none) (fun r e => by cases e)
      obtain ⟨fn, tmps, assign, body, hy, hR⟩ := hY ss x _ hJ3 (by omega)
      unfold kV kc at hy
      unfold kW at hen hkey ⊢
      clear hs2
      gi_wp2
      refine hR.mono ?_
      rintro e W3 ⟨rfl, hJ4, hk4⟩
      gi_wp2
      have hrg4 := hrg3.of_walks hk4
      go_roundw
      case rel => exact ⟨_, cnt2, ss ++ [x], hrg4, by simp; omega, hC.step hkey hlk hmem, hJ4⟩
      case measure => rw [hrg4.left_eq, hrg.left_eq]; exact hlt
end Go.Proofs.YtiocneailhplkaaGreat
