/-
  A map whose keys are operators and whose values are their places. No function of the program but membersOf.
-/
import Derived.Test.YtpolnkjmojofoaaE6b
import Derived.Test.YtpolnkjmojofoaaMK
namespace Go.Proofs.Ytpolnkjmojofoaa
open Go.RowKit Go.ChangeShapes Go.WideShapes Go.MapKept
open Go.ChangeMaps (setBlock heap_setBlock_same heap_setBlock_other)
open Go.WideElems (Fit rd rg pl rd_mk)

/-- Block b is a map with these keys, each one's value is its place. -/
def MapN (w : World) (b : Nat) (ks : List (Nat → Int)) : Prop :=
  ∃ es clock, w.heap[b]? = some (.map es clock) ∧ Fit Try.prog 70 RE es clock ∧ es.toList.map (fun e => (e.key, e.val)) = ks.zipIdx.map (fun p => (kV p.1, Value.int .i64 (p.2 : Int)))
theorem MapN.lt {w : World} {b : Nat} {ks : List (Nat → Int)} (h : MapN w b ks) : b < w.heap.size := by
  obtain ⟨es, clock, hb, -⟩ := h
  exact (Array.getElem?_eq_some_iff.1 hb).1
theorem MapN.of_block {w w' : World} {b : Nat} {ks : List (Nat → Int)} (h : MapN w b ks) (hb : w'.heap[b]? = w.heap[b]?) : MapN w' b ks := by
  obtain ⟨es, clock, h1, h2⟩ := h
  exact ⟨es, clock, hb.trans h1, h2⟩
theorem MapN.below {w w' : World} {b : Nat} {ks : List (Nat → Int)} (h : MapN w b ks) (hb : Below w.heap.size w w') : MapN w' b ks := h.of_block (hb.block b h.lt)
/-- Where is the key? -/
theorem MapN.look {w : World} {b : Nat} {ks : List (Nat → Int)} {k : Nat → Int} (h : MapN w b ks) (hk : small k) (hm : kV k ∈ ks.map kV) :
    ∃ j k', (Instr.lookup 62 (.map (some b)) (kV k) false).run Try.prog w = .ok (.int .i64 ((j : Nat) : Int)) w ∧ ks[j]? = some k' ∧ kV k' = kV k := by
  obtain ⟨l, hl⟩ := key_kV hk
  obtain ⟨es, clock, h1, h2, h3⟩ := h
  have hz : (zeroValue 2).run Try.prog w = .ok (.int .i64 0) w := by kernel_rfl
  rcases Go.Maps.fit_look false keyed65 und75 hz h1 h2 hl with ⟨hr, hn, -⟩ | ⟨e0, y, hm0, he, hr, -⟩
  · exfalso
    obtain ⟨k', hk', e⟩ := List.mem_map.1 hm
    obtain ⟨j, hj⟩ := List.getElem?_of_mem hk'
    have h4 : (kV k', Value.int .i64 (j : Int)) ∈ es.toList.map (fun e => (e.key, e.val)) := by
      rw [h3]
      exact List.mem_map.2 ⟨(k', j), List.mem_zipIdx_iff_getElem?.2 hj, rfl⟩
    obtain ⟨x, hx, ex⟩ := List.mem_map.1 h4
    simp only [Prod.mk.injEq] at ex
    exact hn x hx (ex.1.trans e)
  · have h4 : (e0.key, e0.val) ∈ ks.zipIdx.map (fun p => (kV p.1, Value.int .i64 (p.2 : Int))) := by
      rw [← h3]
      exact List.mem_map.2 ⟨e0, hm0, rfl⟩
    obtain ⟨⟨k', j⟩, hp, ep⟩ := List.mem_map.1 h4
    simp only [Prod.mk.injEq] at ep
    refine ⟨j, k', ?_, List.mem_zipIdx_iff_getElem?.1 hp, ep.1.trans he⟩
    rw [hr, ← ep.2]
    rfl
/-- A new key. -/
theorem MapN.store {w : World} {b : Nat} {ks : List (Nat → Int)} {k : Nat → Int} (h : MapN w b ks) (hk : small k) (hnew : kV k ∉ ks.map kV) (hroom : ks.length < 1000) :
    ∃ w', (Instr.mapUpdate 62 (.map (some b)) (kV k) (.int .i64 (ks.length : Int))).run Try.prog w = .ok () w' ∧ MapN w' b (ks ++ [k]) ∧ w.grownBy w' (some b) ∧ w'.heap.size = w.heap.size := by
  obtain ⟨l, hl⟩ := key_kV hk
  obtain ⟨es, clock, h1, h2, h3⟩ := h
  have hn : (Lit.int .i64 (ks.length : Int)).wf = true := wf_small (by omega)
  have hes : es.size = ks.length := by have := congrArg List.length h3; simpa using this
  have hv := re_int hn
  have hno : ∀ x ∈ es.toList, x.key ≠ kV k := fun x hx e => hnew (by
    have h4 : (x.key, x.val) ∈ ks.zipIdx.map (fun p => (kV p.1, Value.int .i64 (p.2 : Int))) := by
      rw [← h3]
      exact List.mem_map.2 ⟨x, hx, rfl⟩
    obtain ⟨⟨k', j⟩, hp, ep⟩ := List.mem_map.1 h4
    simp only [Prod.mk.injEq] at ep
    rw [← e, ← ep.1]
    exact List.mem_map_of_mem (List.mem_of_getElem? (List.mem_zipIdx_iff_getElem?.1 hp)))
  rcases keyed65.find w hl es.toList h2.keys with ⟨f1, f2⟩ | ⟨j, e0, f1, f2, f3⟩
  · refine ⟨setBlock w b (.map (es.push ⟨kV k, .int .i64 (ks.length : Int), clock⟩) (clock + 1)), ?_, ⟨_, _, heap_setBlock_same h1 _, ⟨by unfold maxLen; simp; omega, stamped_push h2.stamped hno, ?_⟩, ?_⟩, ⟨rfl, rfl, rfl, by simp [setBlock], fun i _ hi => heap_setBlock_other h1 _ (fun e => hi (by rw [e]))⟩, by simp [setBlock]⟩
    · simp [Instr.mapUpdate, run_underlying und75, MapKept.run_getObj_map h1, keyed65.check w false hl, f1, MapKept.run_setObj_map _ h1, Result.andThen, setBlock]
    · intro x hx
      simp only [Array.toList_push, List.mem_append, List.mem_singleton] at hx
      rcases hx with hx | rfl
      · exact h2.reads x hx
      · exact ⟨_, rd_mk hl hv⟩
    · simp [h3, List.zipIdx_append]
  · exact absurd f3 (hno e0 (List.mem_of_getElem? f2))
theorem mapN_new (w : World) : MapN (w.alloc (.map #[] 0)) w.heap.size [] := by
  refine ⟨#[], 0, heap_alloc_new _ _, ⟨by simp, ⟨by simp, by simp, by simp⟩, by simp⟩, rfl⟩
theorem Oprs.of_block {w w' : World} {base g n c : Nat} {F : Nat → Nat → Int} (h : Oprs w base (.slice (some ⟨g, 0, none⟩) n c) n F) (hb' : w'.heap[g]? = w.heap[g]?) : Oprs w' base (.slice (some ⟨g, 0, none⟩) n c) n F := by
  refine ⟨?_, h.2⟩
  obtain ⟨e0, h1 | ⟨g', c', cur, e, hb, hh, r⟩⟩ := h.1
  · exact ⟨e0, .inl h1⟩
  · cases e
    exact ⟨e0, .inr ⟨g, c, cur, rfl, hb, hb'.trans hh, r⟩⟩
set_option maxRecDepth 100000 in
set_option maxHeartbeats 1600000 in
theorem membersOf_any {w : World} {base g n c : Nat} {F : Nat → Nat → Int} (hF : Oprs w base (.slice (some ⟨g, 0, none⟩) n c) n F) (hs : ∀ i, i < n → small (F i)) (hd : ∀ i j, i < j → j < n → kV (F i) ≠ kV (F j)) (hn : n ≤ 192) :
    Calls Try.prog 39 #[.slice (some ⟨g, 0, none⟩) n c] w fun e w' => ∃ b, e = .returned (.map (some b)) ∧ MapN w' b ((List.range n).map F) ∧ w.heap.size ≤ b ∧ Below w.heap.size w w' := by
  have hmk := makeMap75
  have hn' : (n : Int) ≤ 192 := by omega
  obtain ⟨W1, hW1⟩ : ∃ W, w.alloc (.map #[] 0) = W := ⟨_, rfl⟩
  obtain ⟨b, hb⟩ : ∃ b, w.heap.size = b := ⟨_, rfl⟩
  have M1 : Hid (MapN W1 b ((List.range 0).map F)) := by rw [← hW1, ← hb]; exact mapN_new w
  have B1 : Below w.heap.size w W1 := hW1 ▸ below_alloc _ _
  have O1 : Hid (Oprs W1 base (.slice (some ⟨g, 0, none⟩) n c) n F) := hF.below B1
  have hgb : g < b := hb ▸ hF.lt.2
  have HS : Hid (∀ i, i < n → small (F i)) := hs
  have HD : Hid (∀ i j, i < j → j < n → kV (F i) ≠ kV (F j)) := hd
  have hbl : w.heap.size ≤ b := Nat.le_of_eq hb
  clear hs hd hF
  go_enter Try.func39, Try.ntmps39
  go_wp2
  clear hmk hW1 hb
  go_loopw [9] (fun s wr => ∃ i : Nat, i ≤ n ∧ s = .int .i64 (i : Int) ∧ Hid (MapN wr b ((List.range i).map F)) ∧ Hid (Oprs wr base (.slice (some ⟨g, 0, none⟩) n c) n F) ∧ Below w.heap.size w wr) (fun s _ => n - (intOf s).toNat)
  case atStart => exact ⟨0, Nat.zero_le _, rfl, M1, O1, B1⟩
  case round =>
    clear M1 O1 B1
    obtain ⟨i, hi, rfl, M, HO, B⟩ := hrel
    by_cases hlt : i < n
    · have hlt' : (i : Int) < (n : Int) := by omega
      obtain ⟨e0, e1, e2, e3, e4, e5, e6, e7, e8, e9, e10, e11⟩ := HO.out.open i hlt
      have hnew : kV (F i) ∉ ((List.range i).map F).map kV := fun hm => by
        obtain ⟨k', hk', e⟩ := List.mem_map.1 hm
        obtain ⟨j, hj, rfl⟩ := List.mem_map.1 hk'
        exact HD.out j i (List.mem_range.1 hj) hlt e
      have hsm := HS.out i hlt
      obtain ⟨K, hK⟩ : ∃ K, F i = K := ⟨_, rfl⟩
      have hl1 : ((List.range i).map F ++ [K]) = (List.range (i + 1)).map F := by rw [List.range_succ, List.map_append, ← hK]; rfl
      rw [hK] at hnew hsm
      simp only [hK] at e0 e1 e2 e3 e4 e5 e6 e7 e8 e9 e10 e11
      clear hK
      obtain ⟨W7, hW7, a7, b7, -⟩ := boxed wr 70 (kc K).toArray
      obtain ⟨p7, hp7⟩ : ∃ p, wr.heap.size = p := ⟨_, rfl⟩
      rw [hp7] at a7
      obtain ⟨w8, hst, hM8, g8, z8⟩ := (M.out.below b7).store hsm hnew (by simp; omega)
      rw [hl1] at hM8
      simp only [List.length_map, List.length_range] at hst
      have HM8 : Hid (MapN w8 b ((List.range (i + 1)).map F)) := hM8
      have O7 := HO.out.below b7
      have O8 : Hid (Oprs w8 base (.slice (some ⟨g, 0, none⟩) n c) n F) := O7.of_block (g8.block g O7.lt.2 (fun e => by simp only [Option.some.injEq] at e; omega))
      have B8 : Below w.heap.size w w8 := (B.trans (b7.mono B.size)).grown g8 (Nat.le_trans B.size b7.size) (fun k hk => by simp only [Option.some.injEq] at hk; omega)
      obtain ⟨d0, d1, d2, d3, d4, d5, d6, d7, d8, d9, d10, d11⟩ := At.openk (x := K) a7
      clear M HO B b7 a7 hM8 g8 z8 O7 hnew hsm hl1
      unfold kV at hst
      unfold kc at hst hW7
      go_wp2
      exact ⟨⟨i + 1, by omega, by go_num, HM8, O8, B8⟩, by simp [intOf]; omega⟩
    · obtain rfl : i = n := by omega
      have hlt' : ¬ (i : Int) < (i : Int) := by omega
      go_wp2
      go_ret
      exact ⟨b, rfl, M.out, hbl, B⟩
end Go.Proofs.Ytpolnkjmojofoaa
