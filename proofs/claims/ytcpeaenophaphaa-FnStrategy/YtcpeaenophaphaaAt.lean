/-
  Heaps of plans: take, walked.
-/
import Derived.Test.YtcpeaenophaphaaAs
namespace Go.Proofs.Ytcpeaenophaphaa
open Go.RowKit

theorem ok_fresh {w : World} {p i : Nat} {x : Pl} (h : Ok w x) (hp : ∃ cur, At 56 w p cur) (u : Value) : Ok (w.setCell ⟨p, i, none⟩ u) x := by
  obtain ⟨cur, hc⟩ := h.at
  obtain ⟨cp, hcp⟩ := hp
  refine ⟨own_keepA h.1 (fun j hj => ?_), h.2⟩
  obtain rfl : x.g = j := by simpa [Value.ownBlock] using hj
  exact Below.heap_setCell _ _ _ _ (show x.g ≠ p from at_ne hc hcp (by decide))
theorem ok_cut {w : World} {n : Nat} {f : Nat → Pl} (h : ∀ i, i < n + 1 → Ok w (f i)) : ∀ i, i < n → Ok w (upd f 0 (f n) i) := by
  intro i hi
  by_cases e : i = 0
  · subst e; rw [upd_at]; exact h n (by omega)
  · rw [upd_o f _ e]; exact h i (by omega)
/-- What take leaves. -/
def TakePP (w : World) (B q n : Nat) (v : Value) (f : Nat → Pl) (w' : World) : Prop :=
  ∃ v' f', HvP w' B q v' n f' ∧ Hp qlt n f' ∧ Rg n (upd f 0 (f n)) f' ∧ MvP q v.ownBlock w w' ∧ v'.ownBlock = v.ownBlock
theorem MvP.fresh {q p i : Nat} {o : Option Nat} {w w' : World} (h : MvP q o w w') (hp : w.heap.size ≤ p) (v : Value) : MvP q o w (w'.setCell ⟨p, i, none⟩ v) :=
  ⟨h.os, h.tape, h.output, by simpa [World.setCell] using h.size, fun k hk h1 h2 => (Below.heap_setCell _ _ _ _ (by show k ≠ p; omega)).trans (h.block k hk h1 h2)⟩
theorem HvP.setFresh {w : World} {B q p i n : Nat} {v : Value} {f : Nat → Pl} (h : HvP w B q v n f) (hq : q ≠ p) (ho : v.ownBlock ≠ some p) (hp : ∃ cur, At 56 w p cur) (u : Value) : HvP (w.setCell ⟨p, i, none⟩ u) B q v n f := ⟨own_setO h.own ho _, h.hd.setOther hq _, h.qB, fun i hi => ok_fresh (h.ok i hi) hp u⟩
set_option maxRecDepth 100000 in
set_option maxHeartbeats 4000000 in
theorem takeP_any {w : World} {B q n : Nat} {v : Value} {f : Nat → Pl} (h : HvP w B q v (n + 1) f) (hH : Hp qlt (n + 1) f) (hn : n ≤ 100000) :
    Calls Try.prog 43 #[.pointer (some ⟨q, 0, none⟩)] w fun e w' => e = .returned (pV (f 0)) ∧ TakePP w B q n v f w' := by
  obtain ⟨g, c, rfl⟩ := h.top (Nat.succ_pos n)
  have hn' : (n : Int) ≤ 100000 := by omega
  have hqB := h.qB
  have hgB := own_lt h.own
  have hgq : g ≠ q := by omega
  have hqs : q < w.heap.size := h.hd.lt
  have hgs : g < w.heap.size := hgB.2.1
  obtain ⟨V, hV, a2, bW, -⟩ := boxed w 56 #[.slice none 0 0, .int .u64 0]
  obtain ⟨p2, hp2⟩ : ∃ p, w.heap.size = p := ⟨_, rfl⟩
  have hw1 : IntKind.i64.wrap ((n : Int) + 1 - 1) = (n : Int) := by rw [IntKind.wrap_i64]; omega
  have hw0 : IntKind.i64.wrap (n : Int) = (n : Int) := by rw [IntKind.wrap_i64]; omega
  have hwp : w.heap.size ≤ p2 := by omega
  have hgp : g ≠ p2 := by omega
  have hqp : q ≠ p2 := by omega
  have hw2 : (n : Int) + 1 - 1 = (n : Int) := by omega
  have hok0 := ok_cut h.ok
  have hhd0 := h.hd
  have hho := own_atO h.own
  replace h := h.below bW
  have hV2 := a2.lt
  rw [hp2] at a2 hV2
  go_enter Try.func43, Try.ntmps43
  go_upto_region 1 with (fail)
  clear hV
  have hhd := h.hd
  have hown := h.own
  clear h
  obtain ⟨u0, hu0, bb⟩ : ∃ uu, V.drew = uu ∧ Below V.heap.size V uu := ⟨_, rfl, (Below.refl _ _).drew⟩
  replace hhd := hhd.below bb
  replace a2 := a2.below bb
  replace hown := own_bel hown bb
  replace bW := bW.trans (bb.mono bW.size)
  have hpu : p2 < u0.heap.size := Nat.lt_of_lt_of_le hV2 bb.size
  clear bb
  refine wp_region_held_drew (S := Kb u0) (by kernel_rfl) (by rw [hu0]; exact Below.refl _ _) (fun hHeld => ?_)
  rw [hu0] at hHeld ⊢
  clear hu0
  have bu : Kb u0 u0 := Below.refl _ _
  change wpAnyH _ _ _ _ _ 15 #[false, false, false, false, false, false, false, false, false, false, false, false, false, false, false] _ _
  refine wpAnyH_take (i := 0) (v := .pointer (some ⟨q, 0, none⟩)) rfl (by kernel_rfl) (by kernel_rfl) (by kernel_rfl) (fun _ _ _ h => h) (Or.inl ⟨by kernel_rfl, ?_⟩) hHeld ?_
  · intro w' hSw; go_simp
  try simp only [Act.put, List.setIfInBounds_toArray, List.set_cons_zero, List.set_cons_succ, List.getElem_toArray, List.getElem_cons_zero]
  refine wpAnyH_take (i := 1) (v := .pointer (some ⟨q, 0, none⟩)) rfl (by kernel_rfl) (by kernel_rfl) (by kernel_rfl) (fun _ _ _ h => h) (Or.inl ⟨by kernel_rfl, ?_⟩) hHeld ?_
  · intro w' hSw; go_simp
  try simp only [Act.put, List.setIfInBounds_toArray, List.set_cons_zero, List.set_cons_succ, List.getElem_toArray, List.getElem_cons_succ, List.getElem_cons_zero]
  refine wpAnyH_take (i := 2) (v := .pointer (some ⟨q, 0, none⟩)) rfl (by kernel_rfl) (by kernel_rfl) (by kernel_rfl) (fun _ _ _ h => h) (Or.inl ⟨by kernel_rfl, ?_⟩) hHeld ?_
  · intro w' hSw; go_simp
  try simp only [Act.put, List.setIfInBounds_toArray, List.set_cons_zero, List.set_cons_succ, List.getElem_toArray, List.getElem_cons_succ, List.getElem_cons_zero]
  refine wpAnyH_take (i := 3) (v := .slice ((some ⟨g, 0, none⟩)) ((n + 1)) c) rfl (by kernel_rfl) (by kernel_rfl) (by kernel_rfl) (fun _ _ _ h => h) (Or.inl ⟨by kernel_rfl, ?_⟩) hHeld ?_
  · intro w' hSw; obtain ⟨y0, y1, -⟩ := (hhd.below hSw).open2; go_simp
  try simp only [Act.put, List.setIfInBounds_toArray, List.set_cons_zero, List.set_cons_succ, List.getElem_toArray, List.getElem_cons_succ, List.getElem_cons_zero]
  refine wpAnyH_take (i := 4) (v := .pointer (some ⟨g, 0, none⟩)) rfl (by kernel_rfl) (by kernel_rfl) (by kernel_rfl) (fun _ _ _ h => h) (Or.inl ⟨by kernel_rfl, ?_⟩) hHeld ?_
  · intro w' hSw; go_simp
  try simp only [Act.put, List.setIfInBounds_toArray, List.set_cons_zero, List.set_cons_succ, List.getElem_toArray, List.getElem_cons_succ, List.getElem_cons_zero]
  refine wpAnyH_take (i := 5) (v := pV (f 0)) rfl (by kernel_rfl) (by kernel_rfl) (by kernel_rfl) (fun _ _ _ h => h) (Or.inl ⟨by kernel_rfl, ?_⟩) hHeld ?_
  · intro w' hSw; obtain ⟨z0, z1, -⟩ := own_readP (own_bel hown hSw) (Nat.succ_pos n); go_simp
  try simp only [Act.put, List.setIfInBounds_toArray, List.set_cons_zero, List.set_cons_succ, List.getElem_toArray, List.getElem_cons_succ, List.getElem_cons_zero]
  refine wpAnyH_take (i := 6) (v := .pointer (some ⟨q, 0, none⟩)) rfl (by kernel_rfl) (by kernel_rfl) (by kernel_rfl) (fun _ _ _ h => h) (Or.inl ⟨by kernel_rfl, ?_⟩) hHeld ?_
  · intro w' hSw; go_simp
  try simp only [Act.put, List.setIfInBounds_toArray, List.set_cons_zero, List.set_cons_succ, List.getElem_toArray, List.getElem_cons_succ, List.getElem_cons_zero]
  refine wpAnyH_take (i := 7) (v := .pointer (some ⟨q, 0, none⟩)) rfl (by kernel_rfl) (by kernel_rfl) (by kernel_rfl) (fun _ _ _ h => h) (Or.inl ⟨by kernel_rfl, ?_⟩) hHeld ?_
  · intro w' hSw; go_simp
  try simp only [Act.put, List.setIfInBounds_toArray, List.set_cons_zero, List.set_cons_succ, List.getElem_toArray, List.getElem_cons_succ, List.getElem_cons_zero]
  refine wpAnyH_take (i := 8) (v := .pointer (some ⟨q, 0, none⟩)) rfl (by kernel_rfl) (by kernel_rfl) (by kernel_rfl) (fun _ _ _ h => h) (Or.inl ⟨by kernel_rfl, ?_⟩) hHeld ?_
  · intro w' hSw; go_simp
  try simp only [Act.put, List.setIfInBounds_toArray, List.set_cons_zero, List.set_cons_succ, List.getElem_toArray, List.getElem_cons_succ, List.getElem_cons_zero]
  refine wpAnyH_take (i := 9) (v := .slice ((some ⟨g, 0, none⟩)) ((n + 1)) c) rfl (by kernel_rfl) (by kernel_rfl) (by kernel_rfl) (fun _ _ _ h => h) (Or.inl ⟨by kernel_rfl, ?_⟩) hHeld ?_
  · intro w' hSw; obtain ⟨y0, y1, -⟩ := (hhd.below hSw).open2; go_simp
  try simp only [Act.put, List.setIfInBounds_toArray, List.set_cons_zero, List.set_cons_succ, List.getElem_toArray, List.getElem_cons_succ, List.getElem_cons_zero]
  refine wpAnyH_take (i := 10) (v := .int .i64 ((n : Int) + 1)) rfl (by kernel_rfl) (by kernel_rfl) (by kernel_rfl) (fun _ _ _ h => h) (Or.inl ⟨by kernel_rfl, ?_⟩) hHeld ?_
  · intro w' hSw; go_simp
  try simp only [Act.put, List.setIfInBounds_toArray, List.set_cons_zero, List.set_cons_succ, List.getElem_toArray, List.getElem_cons_succ, List.getElem_cons_zero]
  refine wpAnyH_take (i := 11) (v := .int .i64 ((n : Int))) rfl (by kernel_rfl) (by kernel_rfl) (by kernel_rfl) (fun _ _ _ h => h) (Or.inl ⟨by kernel_rfl, ?_⟩) hHeld ?_
  · intro w' hSw; go_simp
  try simp only [Act.put, List.setIfInBounds_toArray, List.set_cons_zero, List.set_cons_succ, List.getElem_toArray, List.getElem_cons_succ, List.getElem_cons_zero]
  refine wpAnyH_ready (rs := [12]) (by kernel_rfl) (by simp) ?_
  refine AllReadyH.cons rfl (fun KK hK' => ?_) AllReadyH.nil
  go_simp
  obtain ⟨u1, hU, a3, bb, -⟩ := boxed u0 56 #[.slice none 0 0, .int .u64 0]
  rw [hU]
  clear hU
  replace bu : Kb u0 u1 := bu.trans (bb.mono bu.size)
  have hl3 : u0.heap.size < u1.heap.size := a3.lt
  obtain ⟨p3, hp3⟩ : ∃ p, u0.heap.size = p := ⟨_, rfl⟩
  rw [hp3] at a3 hl3 ⊢
  clear bb
  clear hHeld
  refine hK'.out _ _ (bu) (fun hHeld => ?_)
  clear hK' KK
  try simp only [List.setIfInBounds_toArray, List.set_cons_zero, List.set_cons_succ]
  refine wpAnyH_ready (rs := [13]) (by kernel_rfl) (by simp) ?_
  refine AllReadyH.cons rfl (fun KK hK' => ?_) AllReadyH.nil
  obtain ⟨y0, y1, k0, k1⟩ := a3.open2
  go_simp
  have hp3u : u0.heap.size ≤ p3 := by omega
  obtain ⟨u2, hU, a4, b4, s4⟩ : ∃ U, ((u1).setCell ⟨p3, 0, none⟩ (.slice (some ⟨(f 0).g, 0, none⟩) (f 0).l.length (f 0).c)).setCell ⟨p3, 1, none⟩ (.int .u64 (f 0).s) = U ∧ At 56 U p3 #[.slice (some ⟨(f 0).g, 0, none⟩) (f 0).l.length (f 0).c, .int .u64 (f 0).s] ∧ Kb u0 U ∧ p3 < U.heap.size := ⟨_, rfl, by simpa using ((a3).set 0 (.slice (some ⟨(f 0).g, 0, none⟩) (f 0).l.length (f 0).c)).set 1 (.int .u64 (f 0).s), ((bu.setCell (p := ⟨p3, 0, none⟩) hp3u _).setCell (p := ⟨p3, 1, none⟩) hp3u _), by simpa [World.setCell] using hl3⟩
  rw [hU]
  clear hU a3 bu y0 k0 y1 k1
  have a3 := a4
  have bu := b4
  clear a4 b4
  clear hHeld
  refine hK'.out _ _ (bu) (fun hHeld => ?_)
  clear hK' KK
  try simp only [List.setIfInBounds_toArray, List.set_cons_zero, List.set_cons_succ]
  refine wpAnyH_take (i := 14) (v := .int .i64 ((n : Int))) rfl (by kernel_rfl) (by kernel_rfl) (by kernel_rfl) (fun _ _ _ h => h) (Or.inl ⟨by kernel_rfl, ?_⟩) hHeld ?_
  · intro w' hSw; go_simp
  try simp only [Act.put, List.setIfInBounds_toArray, List.set_cons_zero, List.set_cons_succ, List.getElem_toArray, List.getElem_cons_succ, List.getElem_cons_zero]
  refine wpAnyH_done (by kernel_rfl) ?_ _
  clear hHeld
  replace hown := own_bel hown bu
  replace hhd := hhd.below bu
  replace a2 := a2.below bu
  replace bW := bW.trans (bu.mono bW.size)
  have hp23 : p2 < p3 := by omega
  have hgp3 : g ≠ p3 := by omega
  have hqp3 : q ≠ p3 := by omega
  clear bu
  go_upto_region 2 with (fail)
  obtain ⟨u0', hu0, bb⟩ : ∃ uu, u2.drew = uu ∧ Below u2.heap.size u2 uu := ⟨_, rfl, (Below.refl _ _).drew⟩
  replace hhd := hhd.below bb
  replace a2 := a2.below bb
  replace a3 := a3.below bb
  replace hown := own_bel hown bb
  replace bW := bW.trans (bb.mono bW.size)
  clear bb
  refine wp_region_held_drew (S := fun w' => At 59 w' q #[.slice (some ⟨g, 0, none⟩) (n + 1) c, .func (.func 39) #[] #[]]) (by kernel_rfl) (by rw [hu0]; exact hhd) (fun hHeld => ?_)
  rw [hu0] at hHeld ⊢
  clear hu0
  change wpAnyH _ _ _ _ _ 13 #[false, false, false, false, false, false, false, false, false, false, false, false, false] _ _
  refine wpAnyH_take (i := 0) (v := .pointer (some ⟨q, 0, none⟩)) rfl (by kernel_rfl) (by kernel_rfl) (by kernel_rfl) (fun _ _ _ h => h) (Or.inl ⟨by kernel_rfl, ?_⟩) hHeld ?_
  · intro w' hSw; go_simp
  try simp only [Act.put, List.setIfInBounds_toArray, List.set_cons_zero, List.set_cons_succ, List.getElem_toArray, List.getElem_cons_zero]
  refine wpAnyH_take (i := 1) (v := .pointer (some ⟨q, 0, none⟩)) rfl (by kernel_rfl) (by kernel_rfl) (by kernel_rfl) (fun _ _ _ h => h) (Or.inl ⟨by kernel_rfl, ?_⟩) hHeld ?_
  · intro w' hSw; go_simp
  try simp only [Act.put, List.setIfInBounds_toArray, List.set_cons_zero, List.set_cons_succ, List.getElem_toArray, List.getElem_cons_succ, List.getElem_cons_zero]
  refine wpAnyH_take (i := 2) (v := .pointer (some ⟨q, 0, none⟩)) rfl (by kernel_rfl) (by kernel_rfl) (by kernel_rfl) (fun _ _ _ h => h) (Or.inl ⟨by kernel_rfl, ?_⟩) hHeld ?_
  · intro w' hSw; go_simp
  try simp only [Act.put, List.setIfInBounds_toArray, List.set_cons_zero, List.set_cons_succ, List.getElem_toArray, List.getElem_cons_succ, List.getElem_cons_zero]
  refine wpAnyH_take (i := 3) (v := .slice ((some ⟨g, 0, none⟩)) ((n + 1)) c) rfl (by kernel_rfl) (by kernel_rfl) (by kernel_rfl) (fun _ _ _ h => h) (Or.inl ⟨by kernel_rfl, ?_⟩) hHeld ?_
  · intro w' hSw; obtain ⟨y0, y1, -⟩ := hSw.open2; go_simp
  try simp only [Act.put, List.setIfInBounds_toArray, List.set_cons_zero, List.set_cons_succ, List.getElem_toArray, List.getElem_cons_succ, List.getElem_cons_zero]
  refine wpAnyH_take (i := 4) (v := .pointer (some ⟨q, 0, none⟩)) rfl (by kernel_rfl) (by kernel_rfl) (by kernel_rfl) (fun _ _ _ h => h) (Or.inl ⟨by kernel_rfl, ?_⟩) hHeld ?_
  · intro w' hSw; go_simp
  try simp only [Act.put, List.setIfInBounds_toArray, List.set_cons_zero, List.set_cons_succ, List.getElem_toArray, List.getElem_cons_succ, List.getElem_cons_zero]
  refine wpAnyH_take (i := 5) (v := .pointer (some ⟨q, 0, none⟩)) rfl (by kernel_rfl) (by kernel_rfl) (by kernel_rfl) (fun _ _ _ h => h) (Or.inl ⟨by kernel_rfl, ?_⟩) hHeld ?_
  · intro w' hSw; go_simp
  try simp only [Act.put, List.setIfInBounds_toArray, List.set_cons_zero, List.set_cons_succ, List.getElem_toArray, List.getElem_cons_succ, List.getElem_cons_zero]
  refine wpAnyH_take (i := 6) (v := .pointer (some ⟨q, 0, none⟩)) rfl (by kernel_rfl) (by kernel_rfl) (by kernel_rfl) (fun _ _ _ h => h) (Or.inl ⟨by kernel_rfl, ?_⟩) hHeld ?_
  · intro w' hSw; go_simp
  try simp only [Act.put, List.setIfInBounds_toArray, List.set_cons_zero, List.set_cons_succ, List.getElem_toArray, List.getElem_cons_succ, List.getElem_cons_zero]
  refine wpAnyH_take (i := 7) (v := .slice ((some ⟨g, 0, none⟩)) ((n + 1)) c) rfl (by kernel_rfl) (by kernel_rfl) (by kernel_rfl) (fun _ _ _ h => h) (Or.inl ⟨by kernel_rfl, ?_⟩) hHeld ?_
  · intro w' hSw; obtain ⟨y0, y1, -⟩ := hSw.open2; go_simp
  try simp only [Act.put, List.setIfInBounds_toArray, List.set_cons_zero, List.set_cons_succ, List.getElem_toArray, List.getElem_cons_succ, List.getElem_cons_zero]
  refine wpAnyH_take (i := 8) (v := .int .i64 ((n : Int))) rfl (by kernel_rfl) (by kernel_rfl) (by kernel_rfl) (fun _ _ _ h => h) (Or.inl ⟨by kernel_rfl, ?_⟩) hHeld ?_
  · intro w' hSw; go_simp
  try simp only [Act.put, List.setIfInBounds_toArray, List.set_cons_zero, List.set_cons_succ, List.getElem_toArray, List.getElem_cons_succ, List.getElem_cons_zero]
  refine wpAnyH_take (i := 9) (v := .pointer (some ⟨g, n * 2, none⟩)) rfl (by kernel_rfl) (by kernel_rfl) (by kernel_rfl) (fun _ _ _ h => h) (Or.inl ⟨by kernel_rfl, ?_⟩) hHeld ?_
  · intro w' hSw; go_simp; intro hh; omega
  try simp only [Act.put, List.setIfInBounds_toArray, List.set_cons_zero, List.set_cons_succ, List.getElem_toArray, List.getElem_cons_succ, List.getElem_cons_zero]
  refine wpAnyH_ready (rs := [10]) (by kernel_rfl) (by simp) ?_
  refine AllReadyH.cons rfl (fun KK hK' => ?_) AllReadyH.nil
  obtain ⟨z0, z1, -⟩ := own_readP hown (Nat.lt_succ_self n)
  go_simp
  clear z0 z1
  clear hHeld
  refine hK'.out _ _ (hhd) (fun hHeld => ?_)
  clear hK' KK
  try simp only [List.setIfInBounds_toArray, List.set_cons_zero, List.set_cons_succ]
  refine wpAnyH_take (i := 11) (v := .pointer (some ⟨g, 0, none⟩)) rfl (by kernel_rfl) (by kernel_rfl) (by kernel_rfl) (fun _ _ _ h => h) (Or.inl ⟨by kernel_rfl, ?_⟩) hHeld ?_
  · intro w' hSw; go_simp
  try simp only [Act.put, List.setIfInBounds_toArray, List.set_cons_zero, List.set_cons_succ, List.getElem_toArray, List.getElem_cons_succ, List.getElem_cons_zero]
  refine wpAnyH_ready (rs := [12]) (by kernel_rfl) (by simp) ?_
  refine AllReadyH.cons rfl (fun KK hK' => ?_) AllReadyH.nil
  have hq0 := own_readP hown (Nat.succ_pos n)
  simp only [Nat.zero_mul, Nat.zero_add] at hq0
  obtain ⟨y0, y1, k0, k1⟩ := hq0
  go_simp
  obtain ⟨U3, hU, ho2, ah2, m2, x2, x3⟩ : ∃ U, ((u0').setCell ⟨g, 0, none⟩ (.slice (some ⟨(f n).g, 0, none⟩) (f n).l.length (f n).c)).setCell ⟨g, 1, none⟩ (.int .u64 (f n).s) = U ∧ U.ownsRow B 56 2 (.slice (some ⟨g, 0, none⟩) (n + 1) c) (n + 1) (hC pE (upd f 0 (f n)) (n + 1)) ∧ At 59 U q #[.slice (some ⟨g, 0, none⟩) (n + 1) c, .func (.func 39) #[] #[]] ∧ MvP q (some g) w U ∧ At 56 U p2 #[.slice none 0 0, .int .u64 0] ∧ At 56 U p3 #[.slice (some ⟨(f 0).g, 0, none⟩) (f 0).l.length (f 0).c, .int .u64 (f 0).s] := ⟨_, rfl, by simpa using own_putP hown (Nat.succ_pos n) (f n), ((hhd.setOther (fun e => hgq e.symm) _).setOther (fun e => hgq e.symm) _), (((MvP.of_below bW).setO _).setO _), ((a2.setOther (fun e => hgp e.symm) _).setOther (fun e => hgp e.symm) _), ((a3.setOther (fun e => hgp3 e.symm) _).setOther (fun e => hgp3 e.symm) _)⟩
  rw [hU]
  clear hU hown hhd a2 a3 y0 k0 y1 k1
  have hown := ho2
  have hhd := ah2
  have hm := m2
  have a2 := x2
  have a3 := x3
  clear ho2 ah2 m2 x2 x3
  clear hHeld
  refine hK'.out _ _ (hhd) (fun hHeld => ?_)
  clear hK' KK
  try simp only [List.setIfInBounds_toArray, List.set_cons_zero, List.set_cons_succ]
  refine wpAnyH_done (by kernel_rfl) ?_ _
  clear hHeld
  have hcutH : Hid (∀ W, W = U3.setCell ⟨q, 0, none⟩ (.slice (some ⟨g, 0, none⟩) n c) → HvP W B q (.slice (some ⟨g, 0, none⟩) n c) n (upd f 0 (f n)) ∧ MvP q (some g) w W ∧ At 56 W p2 #[.slice none 0 0, .int .u64 0] ∧ At 56 W p3 #[.slice (some ⟨(f 0).g, 0, none⟩) (f 0).l.length (f 0).c, .int .u64 (f 0).s]) := by
    rintro W rfl
    exact ⟨⟨own_setO (own_cut pE_len hown (Nat.le_succ n)) (fun e => hgq (by cases e; rfl)) _, by simpa using hhd.set 0 (.slice (some ⟨g, 0, none⟩) n c), hqB, ok_mvO hok0 hhd0 hho (hm.set _).block⟩, hm.set _, a2.setOther (fun e => hqp e.symm) _, a3.setOther (fun e => hqp3 e.symm) _⟩
  have D0 : Dn qlt n (upd f 0 (f n)) 0 := Dn.start hH fun i h1 _ => upd_o _ _ (by omega)
  obtain ⟨y0, y1, y2, y3⟩ := hhd.open2
  have hnc : (n : Int) ≤ (c : Int) := by have := hgB.2.2.1; omega
  have hn1 : n ≤ c := by have := hgB.2.2.1; omega
  obtain ⟨W9, hW9⟩ : ∃ W, U3.setCell ⟨q, 0, none⟩ (.slice (some ⟨g, 0, none⟩) n c) = W := ⟨_, rfl⟩
  obtain ⟨HV, hM, a2', a3'⟩ := hcutH.out W9 hW9.symm
  clear hcutH hown hhd hm a2 a3 bW hH
  go_wp2_with fail
  clear y0 y1 y2 y3 hW9 hw1 hw2
  go_loopw [5] (fun s wr => ∃ (a : Nat) (f' : Nat → Pl), a ≤ n ∧ s = .int .i64 (a : Int) ∧ HvP wr B q (.slice (some ⟨g, 0, none⟩) n c) n f' ∧ Dn qlt n f' a ∧ Rg n (upd f 0 (f n)) f' ∧ MvP q (some g) w wr ∧ At 56 wr p2 #[.slice none 0 0, .int .u64 0] ∧ At 56 wr p3 #[.slice (some ⟨(f 0).g, 0, none⟩) (f 0).l.length (f 0).c, .int .u64 (f 0).s]) (fun s _ => n - (intOf s).toNat)
  case atStart => exact ⟨0, _, Nat.zero_le _, rfl, HV, D0, Rg.refl _ _, hM, a2', a3'⟩
  case round =>
    clear HV D0 hM a2' a3'
    obtain ⟨a, f', ha, rfl, HV, hD, hR, hM, a2, a3⟩ := hrel
    have hFin : ∀ wr, HvP wr B q (.slice (some ⟨g, 0, none⟩) n c) n f' → MvP q (some g) w wr → At 56 wr p2 #[.slice none 0 0, .int .u64 0] → Hp qlt n f' → TakePP w B q n (.slice (some ⟨g, 0, none⟩) (n + 1) c) f (((wr).setCell ⟨p2, 0, none⟩ (.slice (some ⟨(f 0).g, 0, none⟩) (f 0).l.length (f 0).c)).setCell ⟨p2, 1, none⟩ (.int .u64 (f 0).s)) ∧ At 56 (((wr).setCell ⟨p2, 0, none⟩ (.slice (some ⟨(f 0).g, 0, none⟩) (f 0).l.length (f 0).c)).setCell ⟨p2, 1, none⟩ (.int .u64 (f 0).s)) p2 #[.slice (some ⟨(f 0).g, 0, none⟩) (f 0).l.length (f 0).c, .int .u64 (f 0).s] := by
      intro wr HV hM a2 hh
      refine ⟨⟨_, f', ((HV.setFresh hqp (by intro e; cases e; exact hgp rfl) ⟨_, a2⟩ _).setFresh hqp (by intro e; cases e; exact hgp rfl) ⟨_, (a2.set 0 _)⟩ _), hh, hR, ((hM.fresh hwp _).fresh hwp _), rfl⟩, ?_⟩
      simpa using ((a2).set 0 (.slice (some ⟨(f 0).g, 0, none⟩) (f 0).l.length (f 0).c)).set 1 (.int .u64 (f 0).s)
    by_cases hlt : 2 * a + 1 < n
    case neg =>
      obtain ⟨hF, hA⟩ := hFin wr HV hM a2 (hD.done fun i h1 h2 h3 => by omega)
      obtain ⟨d0, d1, e0, e1⟩ := a2.open2
      obtain ⟨c0, c1, -⟩ := a3.open2
      obtain ⟨rr0, rr1, -⟩ := hA.open2
      have hlt' : ¬ 2 * (a : Int) + 1 < (n : Int) := by omega
      obtain ⟨W8, hW8⟩ : ∃ W, ((wr).setCell ⟨p2, 0, none⟩ (.slice (some ⟨(f 0).g, 0, none⟩) (f 0).l.length (f 0).c)).setCell ⟨p2, 1, none⟩ (.int .u64 (f 0).s) = W := ⟨_, rfl⟩
      rw [hW8] at hF rr0 rr1
      clear hFin HV hD hR hM a2 a3 hA
      go_wp2
      exact bodyPost_ret (v := pV (f 0)) (by simp [results, Try.results43, go_sem, rr0, rr1]) rfl ⟨rfl, hF⟩
    have hlt' : 2 * (a : Int) + 1 < (n : Int) := by omega
    obtain ⟨x1, hx1⟩ : ∃ x1 : Nat, 2 * a + 1 = x1 := ⟨_, rfl⟩
    obtain ⟨x2, hx2, hx2n, hx2'⟩ : ∃ x2 : Nat, min (2 * (a : Int) + 2) ((n : Int) - 1) = (x2 : Int) ∧ x2 < n ∧ ((2 * a + 2 < n ∧ x2 = 2 * a + 2) ∨ (n ≤ 2 * a + 2 ∧ x2 = x1)) := by
      by_cases h2 : 2 * a + 2 < n
      · exact ⟨2 * a + 2, by omega, by omega, .inl ⟨h2, rfl⟩⟩
      · exact ⟨n - 1, by omega, by omega, .inr ⟨by omega, by omega⟩⟩
    have e1 : 2 * (a : Int) + 1 = (x1 : Int) := by omega
    have hx1n : x1 < n := by omega
    have HX : Hid ((2 * a + 2 < n ∧ x2 = 2 * a + 2) ∨ (n ≤ 2 * a + 2 ∧ x2 = x1)) := hx2'
    have HX1 : Hid (2 * a + 1 = x1) := hx1
    clear hx2' hx1
    have hle : 2 * (a : Int) + 2 ≤ (n : Int) - 1 ∨ (n : Int) - 1 < 2 * (a : Int) + 2 := by omega
    rcases hle with hle | hle
    · have e2 : 2 * (a : Int) + 2 = (x2 : Int) := by omega
      clear hx2
      go_wp2_with fail
      refine (betterP_any HV hx1n hx2n (by omega)).mono ?_
      rintro e w5 ⟨hd, bb⟩
      obtain ⟨b, rfl, hb0, hb, hba, hbest⟩ : ∃ b : Nat, e = .returned (.int .i64 (b : Int)) ∧ 0 < b ∧ b < n ∧ (b - 1) / 2 = a ∧ ∀ i, 0 < i → i < n → (i - 1) / 2 = a → ¬ qlt (f' i) (f' b) := by
        have hx1 := HX1.out
        rcases hd with ⟨hl, rfl⟩ | ⟨hl, rfl⟩
        · refine ⟨x1, rfl, by omega, hx1n, by omega, fun i h1 h2 h3 => ?_⟩
          by_cases e : i = x1
          · subst e; exact qlt_swo.irr _
          · rcases HX.out with ⟨h4, h5⟩ | ⟨h4, h5⟩
            · obtain rfl : i = x2 := by omega
              exact hl
            · omega
        · have hx := HX.out
          refine ⟨x2, rfl, by omega, hx2n, by omega, fun i h1 h2 h3 => ?_⟩
          by_cases e : i = x1
          · subst e; exact qlt_swo.asy hl
          · obtain rfl : i = x2 := by omega
            exact qlt_swo.irr _
      replace HV := HV.below bb
      replace hM := hM.trans (MvP.of_below bb)
      replace a2 := a2.below bb
      replace a3 := a3.below bb
      clear bb hd e1 e2 hle
      go_wp2_with fail
      refine (swappedP_any HV hb (show a < n by omega) (by omega)).mono ?_
      rintro e w6 ⟨⟨hl, rfl, HV'⟩ | ⟨hl, rfl, HV'⟩, hM'⟩
      · replace a2 := hM'.at a2 (fun e => hqp e.symm) (by intro e; cases e; exact hgp rfl)
        replace a3 := hM'.at a3 (fun e => hqp3 e.symm) (by intro e; cases e; exact hgp3 rfl)
        obtain ⟨hF, hA⟩ := hFin w6 HV' (hM.trans hM') a2 (hD.done fun i h1 h2 h3 => qlt_swo.neg _ _ _ (hbest i h1 h2 h3) hl)
        obtain ⟨d0, d1, e0, e1⟩ := a2.open2
        obtain ⟨c0, c1, -⟩ := a3.open2
        obtain ⟨rr0, rr1, -⟩ := hA.open2
        obtain ⟨W8, hW8⟩ : ∃ W, ((w6).setCell ⟨p2, 0, none⟩ (.slice (some ⟨(f 0).g, 0, none⟩) (f 0).l.length (f 0).c)).setCell ⟨p2, 1, none⟩ (.int .u64 (f 0).s) = W := ⟨_, rfl⟩
        rw [hW8] at hF rr0 rr1
        clear hFin HV HV' hD hR hM hM' a2 a3 hA
        go_wp2
        exact bodyPost_ret (v := pV (f 0)) (by simp [results, Try.results43, go_sem, rr0, rr1]) rfl ⟨rfl, hF⟩
      · replace a2 := hM'.at a2 (fun e => hqp e.symm) (by intro e; cases e; exact hgp rfl)
        replace a3 := hM'.at a3 (fun e => hqp3 e.symm) (by intro e; cases e; exact hgp3 rfl)
        have hD' := hD.step qlt_swo hb0 hb hba hbest hl
        have hR' := hR.trans (rg_sw f' hb (show a < n by omega))
        replace hM := hM.trans hM'
        have HH : Hid _ := hD'
        have Hba : Hid ((b - 1) / 2 = a) := hba
        clear HV hD hD' hR hM' hl hFin hbest hba
        go_wp2
        exact ⟨⟨b, _, by omega, rfl, HV', HH.out, hR', hM, a2, a3⟩, by have := Hba.out; simp [intOf]; omega⟩
    · have e2 : (n : Int) - 1 = (x2 : Int) := by omega
      clear hx2
      go_wp2_with fail
      refine (betterP_any HV hx1n hx2n (by omega)).mono ?_
      rintro e w5 ⟨hd, bb⟩
      obtain ⟨b, rfl, hb0, hb, hba, hbest⟩ : ∃ b : Nat, e = .returned (.int .i64 (b : Int)) ∧ 0 < b ∧ b < n ∧ (b - 1) / 2 = a ∧ ∀ i, 0 < i → i < n → (i - 1) / 2 = a → ¬ qlt (f' i) (f' b) := by
        have hx1 := HX1.out
        rcases hd with ⟨hl, rfl⟩ | ⟨hl, rfl⟩
        · refine ⟨x1, rfl, by omega, hx1n, by omega, fun i h1 h2 h3 => ?_⟩
          by_cases e : i = x1
          · subst e; exact qlt_swo.irr _
          · rcases HX.out with ⟨h4, h5⟩ | ⟨h4, h5⟩
            · obtain rfl : i = x2 := by omega
              exact hl
            · omega
        · have hx := HX.out
          refine ⟨x2, rfl, by omega, hx2n, by omega, fun i h1 h2 h3 => ?_⟩
          by_cases e : i = x1
          · subst e; exact qlt_swo.asy hl
          · obtain rfl : i = x2 := by omega
            exact qlt_swo.irr _
      replace HV := HV.below bb
      replace hM := hM.trans (MvP.of_below bb)
      replace a2 := a2.below bb
      replace a3 := a3.below bb
      clear bb hd e1 e2 hle
      go_wp2_with fail
      refine (swappedP_any HV hb (show a < n by omega) (by omega)).mono ?_
      rintro e w6 ⟨⟨hl, rfl, HV'⟩ | ⟨hl, rfl, HV'⟩, hM'⟩
      · replace a2 := hM'.at a2 (fun e => hqp e.symm) (by intro e; cases e; exact hgp rfl)
        replace a3 := hM'.at a3 (fun e => hqp3 e.symm) (by intro e; cases e; exact hgp3 rfl)
        obtain ⟨hF, hA⟩ := hFin w6 HV' (hM.trans hM') a2 (hD.done fun i h1 h2 h3 => qlt_swo.neg _ _ _ (hbest i h1 h2 h3) hl)
        obtain ⟨d0, d1, e0, e1⟩ := a2.open2
        obtain ⟨c0, c1, -⟩ := a3.open2
        obtain ⟨rr0, rr1, -⟩ := hA.open2
        obtain ⟨W8, hW8⟩ : ∃ W, ((w6).setCell ⟨p2, 0, none⟩ (.slice (some ⟨(f 0).g, 0, none⟩) (f 0).l.length (f 0).c)).setCell ⟨p2, 1, none⟩ (.int .u64 (f 0).s) = W := ⟨_, rfl⟩
        rw [hW8] at hF rr0 rr1
        clear hFin HV HV' hD hR hM hM' a2 a3 hA
        go_wp2
        exact bodyPost_ret (v := pV (f 0)) (by simp [results, Try.results43, go_sem, rr0, rr1]) rfl ⟨rfl, hF⟩
      · replace a2 := hM'.at a2 (fun e => hqp e.symm) (by intro e; cases e; exact hgp rfl)
        replace a3 := hM'.at a3 (fun e => hqp3 e.symm) (by intro e; cases e; exact hgp3 rfl)
        have hD' := hD.step qlt_swo hb0 hb hba hbest hl
        have hR' := hR.trans (rg_sw f' hb (show a < n by omega))
        replace hM := hM.trans hM'
        have HH : Hid _ := hD'
        have Hba : Hid ((b - 1) / 2 = a) := hba
        clear HV hD hD' hR hM' hl hFin hbest hba
        go_wp2
        exact ⟨⟨b, _, by omega, rfl, HV', HH.out, hR', hM, a2, a3⟩, by have := Hba.out; simp [intOf]; omega⟩
end Go.Proofs.Ytcpeaenophaphaa
