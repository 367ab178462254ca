/-
  slices.Compact at structs of three numbers: what it computes, how the list lies; walked.
-/
import Derived.Test.YtehbpcoiciodhaaGreatK3b
import Derived.Lib.SlicesCompact
import Derived.Lib.SliceRun
import Derived.Shelf.RegionOpenPlain
namespace Go.Proofs.YtehbpcoiciodhaaGreat
open Go.RowKit Go.Shelf Go.Sort Go.Lib


abbrev T3 := Int × Int × Int
/-- The list d of triples lies at the head of block g, whose cells are c times three. -/
def C3 (w : World) (g c : Nat) (d : Array T3) : Prop := ∃ cur, At 30 w g cur ∧ cur.size = c * 3 ∧ ∀ i, i < d.size → cur[i * 3]? = some (.int .i64 d[i]!.1) ∧ cur[i * 3 + 1]? = some (.int .i64 d[i]!.2.1) ∧ cur[i * 3 + 2]? = some (.int .i64 d[i]!.2.2)
theorem C3.drew {w : World} {g c : Nat} {d : Array T3} (h : C3 w g c d) : C3 w.drew g c d := by
  obtain ⟨cur, h1, h2, h3⟩ := h
  exact ⟨cur, h1, h2, h3⟩
theorem C3.lt {w : World} {g c : Nat} {d : Array T3} (h : C3 w g c d) : g < w.heap.size := by
  obtain ⟨cur, h1, -⟩ := h
  exact h1.lt
theorem C3.at {w : World} {g c : Nat} {d : Array T3} (h : C3 w g c d) {i : Nat} (hi : i < d.size) : w.cell? ⟨g, i * 3, none⟩ = some (.int .i64 d[i]!.1) ∧ w.cell? ⟨g, i * 3 + 1, none⟩ = some (.int .i64 d[i]!.2.1) ∧ w.cell? ⟨g, i * 3 + 2, none⟩ = some (.int .i64 d[i]!.2.2) := by
  obtain ⟨cur, h1, h2, h3⟩ := h
  obtain ⟨a, b, c⟩ := h3 i hi
  exact ⟨h1.cell _ a, h1.cell _ b, h1.cell _ c⟩
theorem C3.warm {w : World} {g c : Nat} {d : Array T3} (h : C3 w g c d) (i : Nat) : w.frozen? ⟨g, i, none⟩ = false := by
  obtain ⟨cur, h1, -⟩ := h
  exact h1.frozen i
theorem C3.any {w : World} {g c : Nat} {d : Array T3} (h : C3 w g c d) {i : Nat} (hi : i < c * 3) : (w.cell? ⟨g, i, none⟩).isSome = true := by
  obtain ⟨cur, h1, h2, -⟩ := h
  rw [h1.cell i (v := cur[i]) (Array.getElem?_eq_getElem (by omega))]
  rfl
theorem C3.put {w : World} {g c : Nat} {d : Array T3} (h : C3 w g c d) {i : Nat} (hi : i < d.size) (x : T3) : C3 (((w.setCell ⟨g, i * 3, none⟩ (.int .i64 x.1)).setCell ⟨g, i * 3 + 1, none⟩ (.int .i64 x.2.1)).setCell ⟨g, i * 3 + 2, none⟩ (.int .i64 x.2.2)) g c (d.setIfInBounds i x) := by
  obtain ⟨cur, h1, h2, h3⟩ := h
  refine ⟨_, ((h1.set (i * 3) _).set (i * 3 + 1) _).set (i * 3 + 2) _, by simpa using h2, fun j hj => ?_⟩
  have hj' : j < d.size := by simpa using hj
  obtain ⟨a, b, e⟩ := h3 j hj'
  have q0 := (Array.getElem?_eq_some_iff.1 (h3 i hi).1).1
  have q1 := (Array.getElem?_eq_some_iff.1 (h3 i hi).2.1).1
  have q2 := (Array.getElem?_eq_some_iff.1 (h3 i hi).2.2).1
  by_cases e0 : i = j
  · subst e0
    rw [getElem!_pos _ i hj]
    simp only [Array.getElem_setIfInBounds_self, Array.getElem?_setIfInBounds, Array.size_setIfInBounds]
    refine ⟨?_, ?_, ?_⟩ <;> simp <;> omega
  · rw [show (d.setIfInBounds i x)[j]! = d[j]! by rw [getElem!_pos _ j hj, getElem!_pos _ j hj']; first | exact Array.getElem_setIfInBounds_ne hj' e0 | grind]
    simp only [Array.getElem?_setIfInBounds, Array.size_setIfInBounds]
    refine ⟨?_, ?_, ?_⟩
    · rw [if_neg (by omega), if_neg (by omega), if_neg (by omega)]; exact a
    · rw [if_neg (by omega), if_neg (by omega), if_neg (by omega)]; exact b
    · rw [if_neg (by omega), if_neg (by omega), if_neg (by omega)]; exact e
theorem run_clear3 (w : World) (ty : TypeId) (g o n c : Nat) (hn : 0 < n) (hc : ∀ j, j < n * 3 → (w.cell? ⟨g, o + j, none⟩).isSome = true) (hf : ∀ j, j < n * 3 → w.frozen? ⟨g, o + j, none⟩ = false) :
    (Builtin.clear_ #[26] ty #[.slice (some ⟨g, o, none⟩) n c]).run Tryz.prog w = .ok (.tuple #[]) (w.setCells g o (List.replicate (n * 3) (.int .i64 0))) := by
  have hzc : (Builtin.zeroCells (Value.agg #[.int .i64 0, .int .i64 0, .int .i64 0]).cells n).toList = List.replicate (n * 3) (.int .i64 0) := by
    apply List.ext_getElem
    · simp [Builtin.zeroCells, Value.cells]
    · intro i h1 h2
      simp [Builtin.zeroCells, Value.cells]
      rcases (by omega : i % 3 = 0 ∨ i % 3 = 1 ∨ i % 3 = 2) with e | e | e <;> simp [e]
  have hst := run_storeCells_cells (P := Tryz.prog) g o (List.replicate (n * 3) (.int .i64 0)) 0 w (by simpa using hc) (by simpa using hf) (by intro v hv'; rw [List.eq_of_mem_replicate hv']; rfl)
  simp only [Nat.add_zero] at hst
  have ht := Tryz.underlying26
  have hv := Tryz.zeroValue30
  obtain ⟨m, rfl⟩ : ∃ m, n = m + 1 := ⟨n - 1, by omega⟩
  simp [Builtin.clear_, run_underlying ht, hv, hzc, hst]
theorem C3.clear {w : World} {g c : Nat} {d : Array T3} (h : C3 w g c d) {k : Nat} (hk : k ≤ d.size) (n : Nat) : C3 (w.setCells g (k * 3) (List.replicate n (.int .i64 0))) g c (d.extract 0 k) := by
  have gen : ∀ (n o : Nat) (w : World) (cur : Array Value), k * 3 ≤ o → At 30 w g cur → ∃ cur', At 30 (w.setCells g o (List.replicate n (.int .i64 0))) g cur' ∧ cur'.size = cur.size ∧ ∀ i, i < k * 3 → cur'[i]? = cur[i]? := by
    intro n
    induction n with
    | zero => exact fun o w cur _ h => ⟨cur, by simpa [World.setCells] using h, rfl, fun _ _ => rfl⟩
    | succ n ih =>
      intro o w cur ho h
      obtain ⟨cur', h1, h2, h3⟩ := ih (o + 1) _ _ (by omega) (h.set o (.int .i64 0))
      refine ⟨cur', by simpa [List.replicate_succ, World.setCells] using h1, by rw [h2]; simp, fun i hi => ?_⟩
      rw [h3 i hi, Array.getElem?_setIfInBounds, if_neg (by omega)]
  obtain ⟨cur, h1, h2, h3⟩ := h
  obtain ⟨cur', q1, q2, q3⟩ := gen n (k * 3) w cur (Nat.le_refl _) h1
  refine ⟨cur', q1, by rw [q2, h2], fun i hi => ?_⟩
  have hi' : i < k := by simp at hi; omega
  obtain ⟨a, b, e⟩ := h3 i (by omega)
  rw [q3 _ (by omega), q3 _ (by omega), q3 _ (by omega), show (d.extract 0 k)[i]! = d[i]! by rw [getElem!_pos _ i hi, getElem!_pos _ i (by omega)]; simp]
  exact ⟨a, b, e⟩

theorem compCut {d dk : Array T3} {m k : Nat} (h : CompInv d m k dk) (hk : k ≤ dk.size) : dk.extract 0 k = (compactUpTo d m).toArray := by
  apply Array.ext_getElem?
  intro j
  have hl := h.len
  by_cases hj : j < k
  · have := h.low j hj
    rw [show (compactUpTo d m).toArray[j]? = (compactUpTo d m)[j]? by simp, this, Array.getElem?_extract, if_pos (by omega), getElem!_pos _ j (by omega), Nat.zero_add, Array.getElem?_eq_getElem]
  · rw [Array.getElem?_eq_none (by simp; omega), Array.getElem?_eq_none (by simp; omega)]
theorem below_setCells {B g : Nat} {v : Value} : ∀ {n o : Nat} {w0 w : World}, Below B w0 w → B ≤ g → Below B w0 (w.setCells g o (List.replicate n v))
  | 0, _, _, _, h, _ => by simpa [World.setCells] using h
  | n + 1, o, w0, w, h, hg => by
    have := below_setCells (n := n) (o := o + 1) (v := v) (h.setCell (p := ⟨g, o, none⟩) hg v) hg
    simpa [List.replicate_succ, World.setCells] using this
/-- What Compact leaves. -/
def Comp (d : Array T3) (g c B : Nat) (w w' : World) : Prop := C3 w' g c (compactUpTo d d.size).toArray ∧ Below B w w'
set_option maxRecDepth 100000 in
set_option maxHeartbeats 4000000 in
theorem compactP_any {w : World} {g c B : Nat} {d : Array T3} (h : C3 w g c d) (hc : d.size ≤ c) (hm : d.size ≤ 1600) (hB : B ≤ g) :
    Calls Tryz.prog 74 #[.slice (some ⟨g, 0, none⟩) d.size c] w fun e w' => e = .returned (.slice (some ⟨g, 0, none⟩) (compactUpTo d d.size).length c) ∧ Comp d g c B w w' := by
  have same : (∀ j, j < d.size → keeps d j = true) → compactUpTo d d.size = d.toList := fun hall => by rw [compactUpTo_all d _ hall, range_map_get]
  obtain ⟨m, hmm⟩ : ∃ m, d.size = m := ⟨_, rfl⟩
  have HS : Hid ((∀ j, j < m → keeps d j = true) → (compactUpTo d m).length = m ∧ (compactUpTo d m).toArray = d) := (fun hall => by
    rw [← hmm] at hall ⊢
    rw [same hall]
    simp)
  clear same
  unfold Comp
  rw [hmm] at hc hm ⊢
  have mi : (m : Int) ≤ 1600 := by omega
  have mixed : Tryz.prog.follows Departure.mixedOrders = true := by kernel_rfl
  by_cases h2 : m < 2
  · have h2' : (m : Int) < 2 := by omega
    go_enter Tryz.func74, Tryz.ntmps74
    go_wp2
    go_ret
    obtain ⟨e1, e2⟩ := HS.out (fun j hj => keeps_lt_one d j (by omega))
    exact ⟨by rw [e1]; rfl, by rw [e2]; exact h, Below.refl _ _⟩
  · have h2' : ¬ (m : Int) < 2 := by omega
    go_enter Tryz.func74, Tryz.ntmps74
    go_wp2
    go_loopw [3] (fun s wr => ∃ k : Nat, 1 ≤ k ∧ k ≤ m ∧ s = .int .i64 (k : Int) ∧ C3 wr g c d ∧ Below B w wr ∧ ∀ j, j < k → keeps d j = true) (fun s _ => m - (intOf s).toNat)
    case atStart => exact ⟨1, Nat.le_refl _, by omega, rfl, h, Below.refl _ _, keeps_lt_one d⟩
    case round =>
      clear h
      obtain ⟨k, k1, k2, rfl, h, bw, hall⟩ := hrel
      by_cases hlt : k < m
      · have hklt : (k : Int) < (m : Int) := by omega
        obtain ⟨c0, c1, c2⟩ := h.at (i := k) (by omega)
        obtain ⟨p0, p1, p2⟩ := h.at (i := k - 1) (by omega)
        have lg := h.lt
        have kw : IntKind.i64.wrap ((k : Int) - 1) = ((k - 1 : Nat) : Int) := by rw [IntKind.wrap_i64]; omega
        have kl : k - 1 < m := by omega
        obtain ⟨x, hx⟩ : ∃ x, d[k]! = x := ⟨_, rfl⟩
        obtain ⟨y, hy⟩ : ∃ y, d[k - 1]! = y := ⟨_, rfl⟩
        have KP : Hid (x ≠ y → keeps d k = true) := fun e => keeps_pos (by rw [hx, hy]; exact e)
        have KN : Hid (x = y → keeps d k = false) := fun e => keeps_neg (by omega) (by rw [hx, hy]; exact e)
        rw [hx] at c0 c1 c2
        rw [hy] at p0 p1 p2
        clear hx hy
        obtain ⟨x0, x1, x2⟩ := x
        obtain ⟨y0, y1, y2⟩ := y
        have A : Hid (∀ j, j < k → keeps d j = true) := hall
        clear hall
        by_cases hdup : (x0, x1, x2) = (y0, y1, y2)
        · have hn := KN.out hdup
          cases hdup
          clear KP KN
          go_wp2_with fail
          go_region_o
          go_wp2
          clear c0 c1 c2 p0 p1 p2 kw kl
          have h' := h.drew
          have bw' := bw.drew
          clear h bw
          have I0 : CompInv d (k + 1) k d := CompInv.start A.out hn
          clear A hn
          go_loopw [3, 5] (fun s3 s5 wr => ∃ (kk k2 : Nat) (dk : Array T3), s3 = .int .i64 (kk : Int) ∧ s5 = .int .i64 (k2 : Int) ∧ 1 ≤ k2 ∧ k + k2 ≤ m ∧ CompInv d (k + k2) kk dk ∧ C3 wr g c dk ∧ Below B w wr) (fun _ s5 _ => m - (intOf s5).toNat)
          case atStart => exact ⟨k, 1, d, rfl, rfl, Nat.le_refl _, by omega, I0, h', bw'⟩
          case round =>
            clear h' bw' I0 lg
            obtain ⟨kk, k3, dk, rfl, rfl, h1, hle, hI, h, bw⟩ := hrel
            have hkk := hI.lt
            have hds := hI.size
            have lg := h.lt
            by_cases hlt2 : k + k3 < m
            · have hl3 : k3 < m - k := by omega
              have hl4 : k3 - 1 < m - k := by omega
              have hl5 : (k3 : Int) < ((m - k : Nat) : Int) := by omega
              have kw : IntKind.i64.wrap ((k3 : Int) - 1) = ((k3 - 1 : Nat) : Int) := by rw [IntKind.wrap_i64]; omega
              have kkm : kk < m := by omega
              obtain ⟨c0, c1, c2⟩ := h.at (i := k + k3) (by omega)
              obtain ⟨p0, p1, p2⟩ := h.at (i := k + k3 - 1) (by omega)
              obtain ⟨r0, r1, r2⟩ := h.at (i := kk) (by omega)
              have f0 := h.warm (kk * 3)
              have f1 := h.warm (kk * 3 + 1)
              have f2 := h.warm (kk * 3 + 2)
              rw [hI.high (k + k3) (by omega), show (k + k3) * 3 = k * 3 + k3 * 3 by omega] at c0 c1 c2
              rw [hI.high (k + k3 - 1) (by omega), show (k + k3 - 1) * 3 = k * 3 + (k3 - 1) * 3 by omega] at p0 p1 p2
              obtain ⟨x, hx⟩ : ∃ x, d[k + k3]! = x := ⟨_, rfl⟩
              obtain ⟨y, hy⟩ : ∃ y, d[k + k3 - 1]! = y := ⟨_, rfl⟩
              obtain ⟨z, hz⟩ : ∃ z, dk[kk]! = z := ⟨_, rfl⟩
              have KP : Hid (x ≠ y → CompInv d (k + (k3 + 1)) (kk + 1) (dk.setIfInBounds kk x)) := fun e => by
                have := hI.keep (by omega) (keeps_pos (by rw [hx, hy]; exact e))
                rwa [hx] at this
              have KN : Hid (x = y → CompInv d (k + (k3 + 1)) kk dk) := fun e => hI.skip (keeps_neg (by omega) (by rw [hx, hy]; exact e))
              rw [hx] at c0 c1 c2
              rw [hy] at p0 p1 p2
              rw [hz] at r0 r1 r2
              clear hx hy hz hI
              obtain ⟨x0, x1, x2⟩ := x
              obtain ⟨y0, y1, y2⟩ := y
              by_cases hdup : (x0, x1, x2) = (y0, y1, y2)
              · have HI := KN.out hdup
                cases hdup
                clear KP KN
                go_wp2_with fail
                go_region_o
                go_wp2
                exact ⟨⟨kk, k3 + 1, dk, rfl, by go_num, by omega, by omega, HI, h.drew, bw.drew⟩, by simp [intOf]; omega⟩
              · have HI := KP.out hdup
                clear KP KN
                have fin : ¬ x0 = y0 ∨ (x0 = y0 ∧ ¬ x1 = y1) ∨ (x0 = y0 ∧ x1 = y1 ∧ ¬ x2 = y2) := by
                  by_cases a0 : x0 = y0
                  · by_cases a1 : x1 = y1
                    · by_cases a2 : x2 = y2
                      · exact absurd (by rw [a0, a1, a2]) hdup
                      · exact .inr (.inr ⟨a0, a1, a2⟩)
                    · exact .inr (.inl ⟨a0, a1⟩)
                  · exact .inl a0
                clear hdup
                have hp := h.drew.put (i := kk) (by omega) (x0, x1, x2)
                have bp := ((bw.drew.setCell (p := ⟨g, kk * 3, none⟩) hB (.int .i64 x0)).setCell (p := ⟨g, kk * 3 + 1, none⟩) hB (.int .i64 x1)).setCell (p := ⟨g, kk * 3 + 2, none⟩) hB (.int .i64 x2)
                rcases fin with ng | ⟨rfl, ng⟩ | ⟨rfl, rfl, ng⟩
                all_goals
                  go_wp2_with fail
                  go_region_o
                  go_wp2
                  exact ⟨⟨kk + 1, k3 + 1, _, by go_num, by go_num, by omega, by omega, HI, hp, bp⟩, by simp [intOf]; omega⟩
            · have hend : k + k3 = m := by omega
              have hl5 : ¬ (k3 : Int) < ((m - k : Nat) : Int) := by omega
              have kkm : kk < m := by omega
              have kki : (kk : Int) ≤ (c : Int) := by omega
              have kkj : kk ≤ m := by omega
              have hcl : ∀ ty, (Builtin.clear_ #[26] ty #[.slice (some ⟨g, kk * 3, none⟩) (m - kk) (c - kk)]).run Tryz.prog wr = .ok (.tuple #[]) (wr.setCells g (kk * 3) (List.replicate ((m - kk) * 3) (.int .i64 0))) := fun ty => run_clear3 wr ty g (kk * 3) (m - kk) (c - kk) (by omega) (fun j hj => h.any (by omega)) (fun j _ => h.warm _)
              have hz := h.clear (k := kk) (by omega) ((m - kk) * 3)
              rw [hend] at hI
              have hlen := hI.len
              rw [compCut hI (by omega)] at hz
              have bz := below_setCells (v := .int .i64 0) (n := (m - kk) * 3) (o := kk * 3) bw hB
              clear h hI
              have HL : Hid ((compactUpTo d m).length = kk) := hlen
              clear hlen
              go_wp2
              go_ret
              exact ⟨by rw [HL.out]; rfl, hz, bz⟩
        · have hn := KP.out hdup
          clear KP KN
          have fin : ¬ x0 = y0 ∨ (x0 = y0 ∧ ¬ x1 = y1) ∨ (x0 = y0 ∧ x1 = y1 ∧ ¬ x2 = y2) := by
            by_cases a0 : x0 = y0
            · by_cases a1 : x1 = y1
              · by_cases a2 : x2 = y2
                · exact absurd (by rw [a0, a1, a2]) hdup
                · exact .inr (.inr ⟨a0, a1, a2⟩)
              · exact .inr (.inl ⟨a0, a1⟩)
            · exact .inl a0
          clear hdup
          have HA : Hid (∀ j, j < k + 1 → keeps d j = true) := fun j hj => by
            by_cases e : j = k
            · rw [e]; exact hn
            · exact A.out j (by omega)
          clear A hn
          rcases fin with ng | ⟨rfl, ng⟩ | ⟨rfl, rfl, ng⟩
          all_goals
            go_wp2_with fail
            go_region_o
            go_wp2
            exact ⟨⟨k + 1, by omega, by omega, by go_num, h.drew, bw.drew, HA.out⟩, by simp [intOf]; omega⟩
      · have hklt : ¬ (k : Int) < (m : Int) := by omega
        obtain rfl : m = k := by omega
        obtain ⟨e1, e2⟩ := HS.out hall
        clear hall
        go_wp2
        go_ret
        exact ⟨rfl, h, bw⟩
end Go.Proofs.YtehbpcoiciodhaaGreat
