/-
  slices.Compact at corners: walked.
-/
import Derived.Test.YtealbihplfpgeaaKj
import Derived.Shelf.RegionOpenPlain
namespace Go.Proofs.Ytealbihplfpgeaa
open Go.RowKit Go.Shelf Go.Sort Go.Lib

theorem compCut {d dk : Array T3} {m k : Nat} (h : CompInv d m k dk) (hk : k ≤ dk.size) : dk.extract 0 k = (compactUpTo d m).toArray := by
  apply Array.ext_getElem?
  intro j
  have hl := h.len
  by_cases hj : j < k
  · have := h.low j hj
    rw [show (compactUpTo d m).toArray[j]? = (compactUpTo d m)[j]? by simp, this, Array.getElem?_extract, if_pos (by omega), getElem!_pos _ j (by omega), Nat.zero_add, Array.getElem?_eq_getElem]
  · rw [Array.getElem?_eq_none (by simp; omega), Array.getElem?_eq_none (by simp; omega)]
theorem below_setCells {B g : Nat} {v : Value} : ∀ {n o : Nat} {w0 w : World}, Below B w0 w → B ≤ g → Below B w0 (w.setCells g o (List.replicate n v))
  | 0, _, _, _, h, _ => by simpa [World.setCells] using h
  | n + 1, o, w0, w, h, hg => by
    have := below_setCells (n := n) (o := o + 1) (v := v) (h.setCell (p := ⟨g, o, none⟩) hg v) hg
    simpa [List.replicate_succ, World.setCells] using this
/-- What Compact leaves. -/
def Comp (d : Array T3) (g c B : Nat) (w w' : World) : Prop := C3 w' g c (compactUpTo d d.size).toArray ∧ Below B w w'
set_option maxRecDepth 100000 in
set_option maxHeartbeats 4000000 in
theorem compact_any {w : World} {g c B : Nat} {d : Array T3} (h : C3 w g c d) (hc : d.size ≤ c) (hm : d.size ≤ 1600) (hB : B ≤ g) :
    Calls Try.prog 41 #[.slice (some ⟨g, 0, none⟩) d.size c] w fun e w' => e = .returned (.slice (some ⟨g, 0, none⟩) (compactUpTo d d.size).length c) ∧ Comp d g c B w w' := by
  have same : (∀ j, j < d.size → keeps d j = true) → compactUpTo d d.size = d.toList := fun hall => by rw [compactUpTo_all d _ hall, range_map_get]
  obtain ⟨m, hmm⟩ : ∃ m, d.size = m := ⟨_, rfl⟩
  have HS : Hid ((∀ j, j < m → keeps d j = true) → (compactUpTo d m).length = m ∧ (compactUpTo d m).toArray = d) := (fun hall => by
    rw [← hmm] at hall ⊢
    rw [same hall]
    simp)
  clear same
  unfold Comp
  rw [hmm] at hc hm ⊢
  have mi : (m : Int) ≤ 1600 := by omega
  have mixed : Try.prog.follows Departure.mixedOrders = true := by kernel_rfl
  by_cases h2 : m < 2
  · have h2' : (m : Int) < 2 := by omega
    go_enter Try.func41, Try.ntmps41
    go_wp2
    go_ret
    obtain ⟨e1, e2⟩ := HS.out (fun j hj => keeps_lt_one d j (by omega))
    exact ⟨by rw [e1]; rfl, by rw [e2]; exact h, Below.refl _ _⟩
  · have h2' : ¬ (m : Int) < 2 := by omega
    go_enter Try.func41, Try.ntmps41
    go_wp2
    go_loopw [3] (fun s wr => ∃ k : Nat, 1 ≤ k ∧ k ≤ m ∧ s = .int .i64 (k : Int) ∧ C3 wr g c d ∧ Below B w wr ∧ ∀ j, j < k → keeps d j = true) (fun s _ => m - (intOf s).toNat)
    case atStart => exact ⟨1, Nat.le_refl _, by omega, rfl, h, Below.refl _ _, keeps_lt_one d⟩
    case round =>
      clear h
      obtain ⟨k, k1, k2, rfl, h, bw, hall⟩ := hrel
      by_cases hlt : k < m
      · have hklt : (k : Int) < (m : Int) := by omega
        obtain ⟨c0, c1, c2⟩ := h.at (i := k) (by omega)
        obtain ⟨p0, p1, p2⟩ := h.at (i := k - 1) (by omega)
        have lg := h.lt
        have kw : IntKind.i64.wrap ((k : Int) - 1) = ((k - 1 : Nat) : Int) := by rw [IntKind.wrap_i64]; omega
        have kl : k - 1 < m := by omega
        obtain ⟨x, hx⟩ : ∃ x, d[k]! = x := ⟨_, rfl⟩
        obtain ⟨y, hy⟩ : ∃ y, d[k - 1]! = y := ⟨_, rfl⟩
        have KP : Hid (x ≠ y → keeps d k = true) := fun e => keeps_pos (by rw [hx, hy]; exact e)
        have KN : Hid (x = y → keeps d k = false) := fun e => keeps_neg (by omega) (by rw [hx, hy]; exact e)
        rw [hx] at c0 c1 c2
        rw [hy] at p0 p1 p2
        clear hx hy
        obtain ⟨x0, x1, x2⟩ := x
        obtain ⟨y0, y1, y2⟩ := y
        have A : Hid (∀ j, j < k → keeps d j = true) := hall
        clear hall
        by_cases hdup : (x0, x1, x2) = (y0, y1, y2)
        · have hn := KN.out hdup
          cases hdup
          clear KP KN
          go_wp2_with fail
          go_region_o
          go_wp2
          clear c0 c1 c2 p0 p1 p2 kw kl
          have h' := h.drew
          have bw' := bw.drew
          clear h bw
          have I0 : CompInv d (k + 1) k d := CompInv.start A.out hn
          clear A hn
          go_loopw [3, 5] (fun s3 s5 wr => ∃ (kk k2 : Nat) (dk : Array T3), s3 = .int .i64 (kk : Int) ∧ s5 = .int .i64 (k2 : Int) ∧ 1 ≤ k2 ∧ k + k2 ≤ m ∧ CompInv d (k + k2) kk dk ∧ C3 wr g c dk ∧ Below B w wr) (fun _ s5 _ => m - (intOf s5).toNat)
          case atStart => exact ⟨k, 1, d, rfl, rfl, Nat.le_refl _, by omega, I0, h', bw'⟩
          case round =>
            clear h' bw' I0 lg
            obtain ⟨kk, k3, dk, rfl, rfl, h1, hle, hI, h, bw⟩ := hrel
            have hkk := hI.lt
            have hds := hI.size
            have lg := h.lt
            by_cases hlt2 : k + k3 < m
            · have hl3 : k3 < m - k := by omega
              have hl4 : k3 - 1 < m - k := by omega
              have hl5 : (k3 : Int) < ((m - k : Nat) : Int) := by omega
              have kw : IntKind.i64.wrap ((k3 : Int) - 1) = ((k3 - 1 : Nat) : Int) := by rw [IntKind.wrap_i64]; omega
              have kkm : kk < m := by omega
              obtain ⟨c0, c1, c2⟩ := h.at (i := k + k3) (by omega)
              obtain ⟨p0, p1, p2⟩ := h.at (i := k + k3 - 1) (by omega)
              obtain ⟨r0, r1, r2⟩ := h.at (i := kk) (by omega)
              have f0 := h.warm (kk * 3)
              have f1 := h.warm (kk * 3 + 1)
              have f2 := h.warm (kk * 3 + 2)
              rw [hI.high (k + k3) (by omega), show (k + k3) * 3 = k * 3 + k3 * 3 by omega] at c0 c1 c2
              rw [hI.high (k + k3 - 1) (by omega), show (k + k3 - 1) * 3 = k * 3 + (k3 - 1) * 3 by omega] at p0 p1 p2
              obtain ⟨x, hx⟩ : ∃ x, d[k + k3]! = x := ⟨_, rfl⟩
              obtain ⟨y, hy⟩ : ∃ y, d[k + k3 - 1]! = y := ⟨_, rfl⟩
              obtain ⟨z, hz⟩ : ∃ z, dk[kk]! = z := ⟨_, rfl⟩
              have KP : Hid (x ≠ y → CompInv d (k + (k3 + 1)) (kk + 1) (dk.setIfInBounds kk x)) := fun e => by
                have := hI.keep (by omega) (keeps_pos (by rw [hx, hy]; exact e))
                rwa [hx] at this
              have KN : Hid (x = y → CompInv d (k + (k3 + 1)) kk dk) := fun e => hI.skip (keeps_neg (by omega) (by rw [hx, hy]; exact e))
              rw [hx] at c0 c1 c2
              rw [hy] at p0 p1 p2
              rw [hz] at r0 r1 r2
              clear hx hy hz hI
              obtain ⟨x0, x1, x2⟩ := x
              obtain ⟨y0, y1, y2⟩ := y
              by_cases hdup : (x0, x1, x2) = (y0, y1, y2)
              · have HI := KN.out hdup
                cases hdup
                clear KP KN
                go_wp2_with fail
                go_region_o
                go_wp2
                exact ⟨⟨kk, k3 + 1, dk, rfl, by go_num, by omega, by omega, HI, h.drew, bw.drew⟩, by simp [intOf]; omega⟩
              · have HI := KP.out hdup
                clear KP KN
                have fin : ¬ x0 = y0 ∨ (x0 = y0 ∧ ¬ x1 = y1) ∨ (x0 = y0 ∧ x1 = y1 ∧ ¬ x2 = y2) := by
                  by_cases a0 : x0 = y0
                  · by_cases a1 : x1 = y1
                    · by_cases a2 : x2 = y2
                      · exact absurd (by rw [a0, a1, a2]) hdup
                      · exact .inr (.inr ⟨a0, a1, a2⟩)
                    · exact .inr (.inl ⟨a0, a1⟩)
                  · exact .inl a0
                clear hdup
                have hp := h.drew.put (i := kk) (by omega) (x0, x1, x2)
                have bp := ((bw.drew.setCell (p := ⟨g, kk * 3, none⟩) hB (.int .i64 x0)).setCell (p := ⟨g, kk * 3 + 1, none⟩) hB (.int .i64 x1)).setCell (p := ⟨g, kk * 3 + 2, none⟩) hB (.int .i64 x2)
                rcases fin with ng | ⟨rfl, ng⟩ | ⟨rfl, rfl, ng⟩
                all_goals
                  go_wp2_with fail
                  go_region_o
                  go_wp2
                  exact ⟨⟨kk + 1, k3 + 1, _, by go_num, by go_num, by omega, by omega, HI, hp, bp⟩, by simp [intOf]; omega⟩
            · have hend : k + k3 = m := by omega
              have hl5 : ¬ (k3 : Int) < ((m - k : Nat) : Int) := by omega
              have kkm : kk < m := by omega
              have kki : (kk : Int) ≤ (c : Int) := by omega
              have kkj : kk ≤ m := by omega
              have hcl : ∀ ty, (Builtin.clear_ #[30] ty #[.slice (some ⟨g, kk * 3, none⟩) (m - kk) (c - kk)]).run Try.prog wr = .ok (.tuple #[]) (wr.setCells g (kk * 3) (List.replicate ((m - kk) * 3) (.int .i64 0))) := fun ty => run_clear3 wr ty g (kk * 3) (m - kk) (c - kk) (by omega) (fun j hj => h.any (by omega)) (fun j _ => h.warm _)
              have hz := h.clear (k := kk) (by omega) ((m - kk) * 3)
              rw [hend] at hI
              have hlen := hI.len
              rw [compCut hI (by omega)] at hz
              have bz := below_setCells (v := .int .i64 0) (n := (m - kk) * 3) (o := kk * 3) bw hB
              clear h hI
              have HL : Hid ((compactUpTo d m).length = kk) := hlen
              clear hlen
              go_wp2
              go_ret
              exact ⟨by rw [HL.out]; rfl, hz, bz⟩
        · have hn := KP.out hdup
          clear KP KN
          have fin : ¬ x0 = y0 ∨ (x0 = y0 ∧ ¬ x1 = y1) ∨ (x0 = y0 ∧ x1 = y1 ∧ ¬ x2 = y2) := by
            by_cases a0 : x0 = y0
            · by_cases a1 : x1 = y1
              · by_cases a2 : x2 = y2
                · exact absurd (by rw [a0, a1, a2]) hdup
                · exact .inr (.inr ⟨a0, a1, a2⟩)
              · exact .inr (.inl ⟨a0, a1⟩)
            · exact .inl a0
          clear hdup
          have HA : Hid (∀ j, j < k + 1 → keeps d j = true) := fun j hj => by
            by_cases e : j = k
            · rw [e]; exact hn
            · exact A.out j (by omega)
          clear A hn
          rcases fin with ng | ⟨rfl, ng⟩ | ⟨rfl, rfl, ng⟩
          all_goals
            go_wp2_with fail
            go_region_o
            go_wp2
            exact ⟨⟨k + 1, by omega, by omega, by go_num, h.drew, bw.drew, HA.out⟩, by simp [intOf]; omega⟩
      · have hklt : ¬ (k : Int) < (m : Int) := by omega
        obtain rfl : m = k := by omega
        obtain ⟨e1, e2⟩ := HS.out hall
        clear hall
        go_wp2
        go_ret
        exact ⟨rfl, h, bw⟩
end Go.Proofs.Ytealbihplfpgeaa
