/-
  Votes by the program, walked.
-/
import Derived.Test.YtjlmiadmobbibaaBn
import Derived.Test.YtjlmiadmobbibaaBl
import Derived.Laws.EntriesVeiled
namespace Go.Proofs.Ytjlmiadmobbibaa
open Go.RowKit

theorem kept_mv {q : Nat} {o : Option Nat} {w0 w w' : World} (h : Kept q w0 w) (k : MvV q o w w') (ho : ∀ j, o = some j → w0.heap.size ≤ j) : Kept q w0 w' :=
  ⟨k.os.trans h.os, k.tape.trans h.tape, k.output.trans h.output, Nat.le_trans h.size k.size, fun i hi hp => (k.block i (Nat.lt_of_lt_of_le hi h.size) hp (fun e => by have := ho i e; omega)).trans (h.block i hi hp)⟩
theorem kept_below {q : Nat} {w0 w w' : World} (h : Kept q w0 w) (k : Below w.heap.size w w') : Kept q w0 w' := h.trans (Kept.of_below k)
theorem Lps.kept {q g : Nat} {w w' : World} {l : List (Int × Int)} (h : Lps w g l) (hk : Kept q w w') (hg : g ≠ q) : Lps w' g l :=
  ⟨Nat.lt_of_lt_of_le h.1 hk.size, fun i hi => ⟨(hk.cell hg h.1).trans (h.2 i hi).1, (hk.cell hg h.1).trans (h.2 i hi).2⟩⟩
theorem own_keep {w w' : World} {B : Nat} {e : TypeId} {k : Nat} {v : Value} {n : Nat} {xs : List Value} (h : w.ownsRow B e k v n xs) (hk : ∀ j, v.ownBlock = some j → w'.heap[j]? = w.heap[j]?) : w'.ownsRow B e k v n xs := by
  refine ⟨h.1, h.2.imp id ?_⟩
  rintro ⟨g, cap, cur, rfl, h1, h2, h3⟩
  exact ⟨g, cap, cur, rfl, h1, (hk g rfl).trans h2, h3⟩
theorem own_down {w : World} {B B' : Nat} {e : TypeId} {k : Nat} {v : Value} {n : Nat} {xs : List Value} (h : w.ownsRow B e k v n xs) (hB : B' ≤ B) : w.ownsRow B' e k v n xs := by
  refine ⟨h.1, h.2.imp id ?_⟩
  rintro ⟨g, cap, cur, rfl, h1, h2⟩
  exact ⟨g, cap, cur, rfl, Nat.le_trans hB h1, h2⟩
/-- How many lie in the heap at q. -/
def lenAt (w : World) (q : Nat) : Nat := match w.cell? ⟨q, 0, none⟩ with
  | some (.slice _ n _) => n
  | _ => 0
theorem HvV.len {w : World} {B q n : Nat} {v : Value} {f : Nat → Vt} (h : HvV w B q v n f) : lenAt w q = n := by
  have hc := h.hd.cell 0 rfl
  rcases h.own.2 with ⟨rfl, rfl⟩ | ⟨g, c, cur, rfl, _⟩
  · simp [lenAt, hc]
  · simp [lenAt, hc]
theorem vlt_tri {a b : Vt} (h : ¬ vlt a b) : a = b ∨ vlt b a := by
  obtain ⟨ax, ay, ac⟩ := a
  obtain ⟨bx, b_y, bc⟩ := b
  unfold vlt at *
  simp only at *
  by_cases h1 : ac = bc ∧ ax = bx ∧ ay = b_y
  · obtain ⟨rfl, rfl, rfl⟩ := h1; exact .inl rfl
  · right; omega
/-- Votes told, in new memory. -/
def VoP (w : World) (n : Nat) (f : Nat → Int) (e : Ending) (w' : World) : Prop :=
  ∃ v m F, e = .returned v ∧ w'.ownsRow w.heap.size 36 3 v m (hC vE F m) ∧ v ≠ .slice none 0 0 ∧ ((SpOk n f ∧ VsT n f m F) ∨ (¬ SpOk n f ∧ m = 0)) ∧ m ≤ 1000 ∧ Below w.heap.size w w'
/-- What lies in the heap behind k of the leaps. -/
def InH (D l : List (Int × Int)) (k : Nat) (v : Vt) : Prop := ∃ t, t < k ∧ D.getD t (0, 0) = (v.x, v.y) ∧ Ah v.x v.y ∧ v.c = (cnt l (v.x, v.y) l.length : Int)
theorem inH_yes {D l : List (Int × Int)} {k : Nat} {x y : Int} (hp : D.getD k (0, 0) = (x, y)) (ha : Ah x y) (v : Vt) : InH D l (k + 1) v ↔ (InH D l k v ∨ v = ⟨x, y, (cnt l (x, y) l.length : Int)⟩) := by
  constructor
  · rintro ⟨t, h1, h2, h3, h4⟩
    by_cases e : t = k
    · subst e
      rw [hp] at h2
      injection h2 with e1 e2
      subst e1 e2
      right
      obtain ⟨vx, vy, vc⟩ := v
      simp only at h4
      rw [h4]
    · exact .inl ⟨t, by omega, h2, h3, h4⟩
  · rintro (⟨t, h1, h2⟩ | rfl)
    · exact ⟨t, by omega, h2⟩
    · exact ⟨k, by omega, hp, ha, rfl⟩
theorem inH_no {D l : List (Int × Int)} {k : Nat} {x y : Int} (hp : D.getD k (0, 0) = (x, y)) (ha : ¬ Ah x y) (v : Vt) : InH D l (k + 1) v ↔ InH D l k v := by
  constructor
  · rintro ⟨t, h1, h2, h3, h4⟩
    by_cases e : t = k
    · subst e
      rw [hp] at h2
      injection h2 with e1 e2
      subst e1 e2
      exact absurd h3 ha
    · exact ⟨t, by omega, h2, h3, h4⟩
  · rintro ⟨t, h1, h2⟩
    exact ⟨t, by omega, h2⟩
theorem inH_all (n : Nat) (f : Nat → Int) (v : Vt) : InH (dsT (lpR f n n) (lpR f n n).length) (lpR f n n) (dsT (lpR f n n) (lpR f n n).length).length v ↔ (Ah v.x v.y ∧ v.c = (cN n f (v.x, v.y) : Int) ∧ 0 < cN n f (v.x, v.y)) := by
  constructor
  · rintro ⟨t, h1, h2, h3, h4⟩
    rw [cnt_cN n f h3.ne] at h4
    refine ⟨h3, h4, ?_⟩
    rw [← mem_lpR n f h3.ne, ← List.take_length (l := lpR f n n), ← dsT_mem _ _ _ (Nat.le_refl _)]
    exact mem_getD.2 ⟨t, h1, h2⟩
  · rintro ⟨h1, h2, h3⟩
    rw [← mem_lpR n f h1.ne, ← List.take_length (l := lpR f n n), ← dsT_mem _ _ _ (Nat.le_refl _)] at h3
    obtain ⟨t, ht, he⟩ := mem_getD.1 h3
    exact ⟨t, ht, he, h1, by rw [cnt_cN n f h1.ne]; exact h2⟩
set_option maxRecDepth 100000 in
set_option maxHeartbeats 8000000 in
theorem implVotes_any {w : World} {g n cp : Nat} {f : Nat → Int} (h : Trips w g n f) (hn : n ≤ 1048576) :
    Calls Try.prog 12 #[.slice (some ⟨g, 0, none⟩) n cp] w (VoP w n f) := by
  obtain ⟨i0, hi0, hz0, hz1, hz2⟩ := info_parts infoV
  obtain ⟨V, hV, A0, bW, -⟩ := boxed w 36 #[]
  have hbs : ∀ w, (Instr.buildSlice 33 0 #[]).run Try.prog w = .ok (.slice (some ⟨w.heap.size, 0, none⟩) 0 0) (w.alloc (.cells #[] 36)) := fun _ => by kernel_rfl
  have O0 : V.ownsRow w.heap.size 36 3 (.slice (some ⟨w.heap.size, 0, none⟩) 0 0) 0 [] := ⟨rfl, .inr ⟨w.heap.size, 0, #[], rfl, Nat.le_refl _, A0, Nat.le_refl _, Nat.zero_le _, rfl, rfl⟩⟩
  go_enter Try.func12, Try.ntmps12
  go_wp2_with fail
  refine (areSpots_any (h.below bW) hn).mono ?_
  rintro e w2 ⟨rfl, bb⟩
  replace O0 := own_bel O0 bb
  replace bW := bW.trans (bb.mono bW.size)
  clear bb hV A0
  by_cases hs : SpOk n f
  case neg =>
    rw [pd_no hs]
    have HF : Hid (VoP w n f (.returned (.slice (some ⟨w.heap.size, 0, none⟩) 0 0)) w2) := ⟨_, 0, fun _ => ⟨0, 0, 0⟩, rfl, O0, (fun h => by cases h), .inr ⟨hs, rfl⟩, by omega, bW⟩
    clear O0 bW
    go_wp2
    exact bodyPost_ret (v := .slice (some ⟨w.heap.size, 0, none⟩) 0 0) (by simp [results, Try.results12, go_sem]) rfl HF.out
  rw [pd_yes hs]
  obtain ⟨W1, hW1, hH, bb, -⟩ := boxed w2 74 #[.slice none 0 0, .func (.func 38) #[] #[]]
  have O1 := own_bel O0 bb
  have bW1 := bW.trans (bb.mono bW.size)
  have hwq : w.heap.size < w2.heap.size := (own_lt O0).2.1
  clear bb O0 bW
  go_wp2_with fail
  obtain ⟨q, hq⟩ : ∃ q, w2.heap.size = q := ⟨_, rfl⟩
  rw [hq] at hH hwq ⊢
  refine (leapsOf_any (h.below bW1) hs).mono ?_
  rintro e w3 ⟨v3, rfl, G3⟩
  have bb := G3.b
  have O3 := own_bel O1 bb
  have hH3 := hH.below bb
  have bW3 := bW1.trans (bb.mono bW1.size)
  clear bb O1 hH bW1 hW1 hq
  obtain ⟨-, g3, c3, rfl, hg3, L3⟩ := G3.lps
  have hq3 := hH3.lt
  have hg3q : g3 ≠ q := by
    intro e
    rcases G3.own.2 with ⟨e1, -⟩ | ⟨g', c', cur, e1, hb, hh, -⟩
    · cases e1
    · cases e1
      have h1 := hH3
      rw [e] at hh
      unfold At at h1
      rw [h1] at hh
      injection hh with hh
      injection hh with h2 h3
      exact absurd h3 (by decide)
  clear G3
  have hlen := lpR_len f (i := n) hs.1
  have hl1000 : (lpR f n n).length ≤ 1000 := by have := hs.1; omega
  have HALL := inH_all n f
  obtain ⟨l, hl⟩ : ∃ l, lpR f n n = l := ⟨_, rfl⟩
  rw [hl] at L3 hl1000 HALL
  rw [hl]
  have DD := distinct_any (c := c3) L3 hl1000
  have CI := fun w x y (h : Lps w g3 l) => countIn_any (c := c3) (x := x) (y := y) h hl1000
  have hcl := fun p => cnt_le l p l.length
  obtain ⟨nl, hnl⟩ : ∃ nl, l.length = nl := ⟨_, rfl⟩
  rw [hnl] at DD CI HALL hl1000 hcl
  rw [hnl]
  go_wp2_with fail
  refine DD.mono ?_
  rintro e w5 ⟨v5, rfl, G5⟩
  have bb := G5.b
  have O5 := own_bel O3 bb
  have hH5 := hH3.below bb
  have bW5 := bW3.trans (bb.mono bW3.size)
  replace L3 := L3.below bb
  have hq5 := hH5.lt
  clear bb O3 hH3 bW3 DD
  obtain ⟨-, g5, c5, rfl, hg5, L5⟩ := G5.lps
  have hg5q : g5 ≠ q := by omega
  have hDl := dsT_len l nl
  have hNd := dsT_nodup l nl
  clear G5
  obtain ⟨D, hD⟩ : ∃ D, dsT l nl = D := ⟨_, rfl⟩
  rw [hD] at L5 hDl hNd HALL
  rw [hD]
  obtain ⟨nd, hnd⟩ : ∃ nd, D.length = nd := ⟨_, rfl⟩
  rw [hnd] at hDl HALL
  rw [hnd]
  have hnd' : (nd : Int) ≤ 1000 := by omega
  have HV0 : HvV w5 w5.heap.size q (.slice none 0 0) 0 (fun _ => ⟨0, 0, 0⟩) := ⟨⟨rfl, .inl ⟨rfl, rfl⟩⟩, hH5, hq5⟩
  obtain ⟨B, hB⟩ : ∃ B, w5.heap.size = B := ⟨_, rfl⟩
  rw [hB] at HV0
  have hwB : w.heap.size < B := by omega
  have hqB : q < B := by omega
  have hoj : ∀ j, (Value.slice (some ⟨w.heap.size, 0, none⟩) 0 0).ownBlock = some j → j < q ∧ j < B := fun j hj => by cases hj; exact ⟨hwq, hwB⟩
  go_wp2
  have HNL : l.length = nl := hnl
  have HNLh : Hid (l.length = nl) := hnl
  clear hH5 hD hl hlen hnl HNL
  go_loopw [19] (fun s wr => ∃ (k nH : Nat) (v : Value) (F : Nat → Vt), k ≤ nd ∧ nH ≤ k ∧ s = .int .i64 (k : Int) ∧ HvV wr B q v nH F ∧ Hp vlt nH F ∧ Inj nH F ∧ (∀ x, Mem nH F x ↔ InH D l k x) ∧ Kept q w5 wr) (fun s _ => nd - (intOf s).toNat)
  case atStart => exact ⟨0, 0, _, _, Nat.zero_le _, Nat.le_refl _, rfl, HV0, fun i h1 h2 => by omega, fun i j h1 => by omega, fun x => ⟨fun ⟨i, hi, _⟩ => by omega, fun ⟨i, hi, _⟩ => by omega⟩, Kept.refl _ _⟩
  case round =>
    clear HV0
    obtain ⟨k, nH, v, F, hk, hnHk, rfl, HV, hHp, hInj, hMem, hK⟩ := hrel
    by_cases hlt : k < nd
    · have hlt' : (k : Int) < (nd : Int) := by omega
      obtain ⟨c0, c1⟩ := (L5.kept hK hg5q).2 k (by omega)
      obtain ⟨P, hP⟩ : ∃ P, D.getD k (0, 0) = P := ⟨_, rfl⟩
      rw [hP] at c0 c1
      obtain ⟨x, y⟩ := P
      simp only at c0 c1
      obtain ⟨W6, hW6, a6, bb, -⟩ := boxed wr 66 #[.int .i64 x, .int .i64 y]
      have HV6 := HV.below bb
      have hK6 := kept_below hK bb
      have hvk : ∀ j, v.ownBlock = some j → B ≤ j ∧ j < wr.heap.size := fun j hj => own_ge HV.own hj
      have hqr : q < wr.heap.size := HV.hd.lt
      have hBr : B ≤ wr.heap.size := by have := hK.size; omega
      obtain ⟨p6, hp6⟩ : ∃ q, wr.heap.size = q := ⟨_, rfl⟩
      have h6s := a6.lt
      rw [hp6] at a6 hvk hqr h6s hBr
      obtain ⟨d0, d1, -⟩ := a6.open2
      clear bb HV hK
      go_wp2_with fail
      refine (isAhead_any x y _).mono ?_
      rintro e w7 ⟨rfl, bb⟩
      replace HV6 := HV6.below bb
      replace hK6 := kept_below hK6 bb
      replace a6 := a6.below bb
      replace h6s := Nat.lt_of_lt_of_le h6s bb.size
      clear bb d0 d1 c0 c1 hW6 hp6
      by_cases ha : Ah x y
      · rw [pd_yes ha]
        have HM : Hid (∀ z, InH D l (k + 1) z ↔ (InH D l k z ∨ z = ⟨x, y, (cnt l (x, y) nl : Int)⟩)) := Hid.out fun z => by have := inH_yes (l := l) hP ha z; rwa [HNLh.out] at this
        have hnew : ¬ Mem nH F ⟨x, y, (cnt l (x, y) nl : Int)⟩ := fun hm => by
          obtain ⟨t, h1, h2, -⟩ := (hMem _).1 hm
          exact nodup_get hNd h1 (by omega) (h2.trans hP.symm)
        have L6 := (L3.kept hK6 hg3q)
        have hcx := hcl (x, y)
        obtain ⟨C, hC⟩ : ∃ C : Nat, cnt l (x, y) nl = C := ⟨_, rfl⟩
        rw [hC] at HM hnew hcx
        have HC : Hid (cnt l (x, y) nl = C) := hC
        clear hP ha hC
        go_upto_region 10 with (fail)
        obtain ⟨u0, hu0, bb⟩ : ∃ uu, w7.drew = uu ∧ Below w7.heap.size w7 uu := ⟨_, rfl, (Below.refl _ _).drew⟩
        replace HV6 := HV6.below bb
        replace a6 := a6.below bb
        replace L6 := L6.below bb
        replace hK6 := kept_below hK6 bb
        replace h6s := Nat.lt_of_lt_of_le h6s bb.size
        clear bb
        refine wp_region_held_drew (S := fun w' => At 66 w' p6 #[.int .i64 x, .int .i64 y]) (by kernel_rfl) (by rw [hu0]; exact a6) (fun hHeld => ?_)
        rw [hu0] at hHeld ⊢
        clear hu0
        change wpAnyH _ _ _ _ _ 9 #[false, false, false, false, false, false, false, false, false] _ _
        refine wpAnyH_take (i := 0) (v := .pointer (some ⟨p6, 0, none⟩)) rfl (by kernel_rfl) (by kernel_rfl) (by kernel_rfl) (fun _ _ _ h => h) (Or.inl ⟨by kernel_rfl, ?_⟩) hHeld ?_
        · intro w' hSw; go_simp
        try simp only [Act.put, List.setIfInBounds_toArray, List.set_cons_zero, List.set_cons_succ, List.getElem_toArray, List.getElem_cons_zero]
        refine wpAnyH_take (i := 1) (v := .int .i64 (x)) rfl (by kernel_rfl) (by kernel_rfl) (by kernel_rfl) (fun _ _ _ h => h) (Or.inl ⟨by kernel_rfl, ?_⟩) hHeld ?_
        · intro w' hSw; obtain ⟨z0, z1, -⟩ := hSw.open2; go_simp
        try simp only [Act.put, List.setIfInBounds_toArray, List.set_cons_zero, List.set_cons_succ, List.getElem_toArray, List.getElem_cons_succ, List.getElem_cons_zero]
        refine wpAnyH_take (i := 2) (v := .pointer (some ⟨p6, 1, none⟩)) rfl (by kernel_rfl) (by kernel_rfl) (by kernel_rfl) (fun _ _ _ h => h) (Or.inl ⟨by kernel_rfl, ?_⟩) hHeld ?_
        · intro w' hSw; go_simp
        try simp only [Act.put, List.setIfInBounds_toArray, List.set_cons_zero, List.set_cons_succ, List.getElem_toArray, List.getElem_cons_succ, List.getElem_cons_zero]
        refine wpAnyH_take (i := 3) (v := .int .i64 (y)) rfl (by kernel_rfl) (by kernel_rfl) (by kernel_rfl) (fun _ _ _ h => h) (Or.inl ⟨by kernel_rfl, ?_⟩) hHeld ?_
        · intro w' hSw; obtain ⟨z0, z1, -⟩ := hSw.open2; go_simp
        try simp only [Act.put, List.setIfInBounds_toArray, List.set_cons_zero, List.set_cons_succ, List.getElem_toArray, List.getElem_cons_succ, List.getElem_cons_zero]
        refine wpAnyH_take (i := 4) (v := .agg #[.int .i64 (x), .int .i64 (y)]) rfl (by kernel_rfl) (by kernel_rfl) (by kernel_rfl) (fun _ _ _ h => h) (Or.inl ⟨by kernel_rfl, ?_⟩) hHeld ?_
        · intro w' hSw; obtain ⟨z0, z1, -⟩ := hSw.open2; go_simp
        try simp only [Act.put, List.setIfInBounds_toArray, List.set_cons_zero, List.set_cons_succ, List.getElem_toArray, List.getElem_cons_succ, List.getElem_cons_zero]
        refine wpAnyH_take (i := 5) (v := .slice ((some ⟨g3, 0, none⟩)) nl c3) rfl (by kernel_rfl) (by kernel_rfl) (by kernel_rfl) (fun _ _ _ h => h) (Or.inl ⟨by kernel_rfl, ?_⟩) hHeld ?_
        · intro w' hSw; go_simp
        try simp only [Act.put, List.setIfInBounds_toArray, List.set_cons_zero, List.set_cons_succ, List.getElem_toArray, List.getElem_cons_succ, List.getElem_cons_zero]
        refine wpAnyH_ready (rs := [6]) (by kernel_rfl) (by simp) ?_
        refine AllReadyH.cons rfl (fun KK hK' => ?_) AllReadyH.nil
        go_simp
        refine (CI _ x y L6).mono ?_
        rintro e u1 ⟨rfl, bb⟩
        replace HV6 := HV6.below bb
        replace hK6 := kept_below hK6 bb
        replace a6 := a6.below bb
        replace h6s := Nat.lt_of_lt_of_le h6s bb.size
        rw [HC.out]
        clear bb L6
        try go_wp2_with fail
        clear hHeld
        refine hK'.out _ _ (a6) (fun hHeld => ?_)
        clear hK' KK
        try simp only [List.setIfInBounds_toArray, List.set_cons_zero, List.set_cons_succ]
        refine wpAnyH_take (i := 7) (v := (.agg #[.int .i64 x, .int .i64 y, .int .i64 (C : Int)])) rfl (by kernel_rfl) (by kernel_rfl) (by kernel_rfl) (fun _ _ _ h => h) (Or.inl ⟨by kernel_rfl, ?_⟩) hHeld ?_
        · intro w' hSw; go_simp
        try simp only [Act.put, List.setIfInBounds_toArray, List.set_cons_zero, List.set_cons_succ, List.getElem_toArray, List.getElem_cons_succ, List.getElem_cons_zero]
        refine wpAnyH_ready (rs := [8]) (by kernel_rfl) (by simp) ?_
        refine AllReadyH.cons rfl (fun KK hK' => ?_) AllReadyH.nil
        go_simp
        refine (putV_any ⟨x, y, (C : Int)⟩ HV6 hHp (by omega) (by omega)).mono ?_
        rintro e u2 ⟨rfl, v8, F8, HV8, hHp8, hRg, hMv, hat⟩
        have hK8 := kept_mv hK6 hMv (fun j hj => by have := (hvk j hj).1; omega)
        have a8 := hMv.at a6 (by omega) (fun e => by have := (hvk _ e).2; omega)
        have hInj8 := hRg.1 (inj_put hInj hnew)
        have hMem8 : ∀ z, Mem (nH + 1) F8 z ↔ InH D l (k + 1) z := fun z => (hRg.2 z).trans ((mem_put nH F _ z).trans ((or_congr_left (hMem z)).trans (HM.out z).symm))
        clear HV6 hK6 hMv hRg hat hnew hInj hMem HM a6
        try go_wp2_with fail
        clear hHeld
        refine hK'.out _ _ (a8) (fun hHeld => ?_)
        clear hK' KK
        try simp only [List.setIfInBounds_toArray, List.set_cons_zero, List.set_cons_succ]
        refine wpAnyH_done (by kernel_rfl) ?_ _
        clear hHeld
        go_wp2
        exact ⟨⟨k + 1, nH + 1, v8, F8, by omega, by omega, by go_num, HV8, hHp8, hInj8, hMem8, hK8⟩, by simp [intOf]; omega⟩
      · rw [pd_no ha]
        have HM : Hid (∀ z, Mem nH F z ↔ InH D l (k + 1) z) := Hid.out fun z => (hMem z).trans (inH_no hP ha z).symm
        clear hP ha hMem
        go_wp2
        exact ⟨⟨k + 1, nH, v, F, by omega, by omega, by go_num, HV6, hHp, hInj, HM.out, hK6⟩, by simp [intOf]; omega⟩
    · have hlt' : ¬ (k : Int) < (nd : Int) := by omega
      obtain rfl : k = nd := by omega
      replace hMem : ∀ x, Mem nH F x ↔ _ := fun x => (hMem x).trans (HALL x)
      clear HALL L3 L5 CI hNd
      have O7 := own_keep O5 (w' := wr) (fun j hj => hK.block j (own_ge O5 hj).2 (Nat.ne_of_lt (hoj j hj).1))
      have bW7 : Below w.heap.size w wr := bW5.trans (hK.below (by omega) (by omega))
      have hvB : ∀ j, v.ownBlock = some j → B ≤ j := fun j hj => (own_ge HV.own hj).1
      have hBr : B ≤ wr.heap.size := by have := hK.size; omega
      clear O5 bW5 hK
      go_wp2_with fail
      go_loopw [3] (fun s wr => ∃ (m nH : Nat) (v : Value) (F G : Nat → Vt), m + nH ≤ 1000 ∧ HvV wr B q v nH F ∧ Hp vlt nH F ∧ Inj nH F ∧ wr.ownsRow w.heap.size 36 3 s m (hC vE G m) ∧ s ≠ .slice none 0 0 ∧ (∀ j, s.ownBlock = some j → v.ownBlock ≠ some j ∧ j ≠ q) ∧ Srt vlt m G ∧ (∀ i, i < m → ∀ x, Mem nH F x → vlt (G i) x) ∧ (∀ x, (Mem m G x ∨ Mem nH F x) ↔ (Ah x.x x.y ∧ x.c = (cN n f (x.x, x.y) : Int) ∧ 0 < cN n f (x.x, x.y))) ∧ B ≤ wr.heap.size ∧ Below w.heap.size w wr) (fun _ wr => lenAt wr q)
      case atStart => exact ⟨0, nH, v, F, fun _ => ⟨0, 0, 0⟩, by omega, HV, hHp, hInj, O7, (fun h => by cases h), (fun j hj => ⟨fun e => by have := hvB _ e; have := (hoj j hj).2; omega, Nat.ne_of_lt (hoj j hj).1⟩), (fun i j _ h => by omega), (fun i h => by omega), fun x => by rw [← hMem x]; exact ⟨fun h => h.elim (fun ⟨i, hi, _⟩ => by omega) id, .inr⟩, hBr, bW7⟩
      case round =>
        clear HV hHp hInj O7 hMem hBr bW7 hvB
        obtain ⟨m, nH, v, F, G, hmn, HV, hHp, hInj, hO, hnn, hap, hSrt, hlow, hall, hBr, bW⟩ := hrel
        have hlen : Hid (lenAt wr q = nH) := HV.len
        by_cases h0 : nH = 0
        · subst h0
          have HF : Hid (VoP w n f (.returned u3) wr) := ⟨u3, m, G, rfl, hO, hnn, .inl ⟨hs, hSrt, fun x => by rw [← hall x]; exact ⟨.inl, fun h => h.elim id (fun ⟨i, hi, _⟩ => by omega)⟩⟩, by omega, bW⟩
          go_wp2_with fail
          refine (isEmptyV_any HV true (by simp)).mono ?_
          rintro e w8 ⟨rfl, rfl⟩
          clear HV hHp hInj hO hap hSrt hlow hall bW
          go_wp2
          exact bodyPost_ret (v := u3) (by simp [results, Try.results12, go_sem]) rfl HF.out
        · obtain ⟨N, rfl⟩ : ∃ N, nH = N + 1 := ⟨nH - 1, by omega⟩
          go_wp2_with fail
          refine (isEmptyV_any HV false (by simp)).mono ?_
          rintro e w8 ⟨rfl, rfl⟩
          go_wp2_with fail
          refine (takeV_any HV hHp (by omega)).mono ?_
          rintro e w9 ⟨rfl, v9, F9, HV9, hHp9, hRg9, hMv9, hob9⟩
          have hbest := hHp.best vlt_swo
          have hInj9 := hRg9.1 (inj_take hInj)
          have hMem9 : ∀ z, Mem N F9 z ↔ (Mem (N + 1) F z ∧ z ≠ F 0) := fun z => (hRg9.2 z).trans (mem_take hInj z)
          have hO9 := own_keep hO (w' := w9) (fun j hj => hMv9.block j (own_ge hO hj).2 (hap j hj).2 (hap j hj).1)
          have hvB : ∀ j, v.ownBlock = some j → w.heap.size ≤ j := fun j hj => by have := (own_ge HV.own hj).1; omega
          have bW9 := hMv9.below bW (by omega) hvB bW.size
          have hB9 : B ≤ w9.heap.size := Nat.le_trans hBr hMv9.size
          have hap9 : ∀ j, u3.ownBlock = some j → v9.ownBlock ≠ some j ∧ j ≠ q := fun j hj => by rw [hob9]; exact hap j hj
          have hX : ∀ x, x = F 0 → Mem (N + 1) F x := fun x e => ⟨0, by omega, e.symm⟩
          clear HV hHp hRg9 hMv9 hO hap hob9 bW hvB hBr
          obtain ⟨X, hFX⟩ : ∃ X, F 0 = X := ⟨_, rfl⟩
          rw [hFX] at hMem9 hbest hX
          rw [hFX]
          obtain ⟨V9, hV9, A9, b10, -⟩ := boxed w9 36 #[.int .i64 X.x, .int .i64 X.y, .int .i64 X.c]
          have hO10 := own_bel hO9 b10
          have HV10 := HV9.below b10
          have bW10 := bW9.trans (b10.mono bW9.size)
          have hv10 : ∀ j, v9.ownBlock = some j → j < w9.heap.size := fun j hj => (own_ge HV9.own hj).2
          have hs10 : w9.heap.size < V9.heap.size := A9.lt
          have hq10 : q < w9.heap.size := HV9.hd.lt
          have hb2 : ∀ w, (Instr.buildSlice 33 1 #[(0, vV X)]).run Try.prog w = .ok (.slice (some ⟨w.heap.size, 0, none⟩) 1 1) (w.alloc (.cells #[.int .i64 X.x, .int .i64 X.y, .int .i64 X.c] 36)) := fun _ => by kernel_rfl
          obtain ⟨g9, hg9⟩ : ∃ g, w9.heap.size = g := ⟨_, rfl⟩
          rw [hg9] at A9 hv10 hs10 hq10
          have hBg : B ≤ g9 := by omega
          clear b10 HV9 hO9 bW9 hB9 hFX
          go_wp2_with (at_builtin; refine wpList_append_own_at _ rfl _ _ _ rfl w.heap.size 36 i0 _ 3 24 Try.underlying33 hi0 hz0 hz1 hz2 rfl (by omega) u3 m (hC vE G m) rfl hO10 ⟨g9, 0, none⟩ 1 1 (vE X) rfl rfl (newsV A9) (vE_one X) (by unfold maxLen; omega) (by omega) bW10.size ?_; intro v2 w6 hown2 hgrow2 hne2 hat2)
          have hO6 : w6.ownsRow w.heap.size 36 3 v2 (m + 1) (hC vE (upd G m X) (m + 1)) := by
            rw [hC, upd_at, ← hC_congr (f := G) (fun i hi => (upd_o G X (by omega)).symm)]; exact hown2
          have HV6 : HvV w6 B q v9 N F9 := ⟨own_keep HV10.own (fun j hj => hgrow2.block j (by have := hv10 j hj; omega) (fun e => (hap9 j e.symm).1 hj)), (hgrow2.block q HV10.hd.lt (fun e => (hap9 q e.symm).2 rfl)).trans HV10.hd, HV10.qB⟩
          have bW6 := bW10.grown hgrow2 bW10.size (fun j hj => (own_ge hO10 hj).1)
          refine ⟨⟨m + 1, N, v9, F9, upd G m X, by omega, HV6, hHp9, hInj9, hO6, fun e => hnn (hne2.1 e).1, fun j hj => ?_, fun i j hij hj => ?_, fun i hi x hx => ?_, fun x => ?_, Nat.le_trans (Nat.le_of_lt (Nat.lt_of_le_of_lt hBg hs10)) hgrow2.size, bW6⟩, ?_⟩
          · rcases hat2 with e | e
            · exact hap9 j (e ▸ hj)
            · rw [e] at hj
              cases hj
              exact ⟨fun e => by have := hv10 _ e; omega, by omega⟩
          · by_cases e : j = m
            · subst e
              rw [upd_at, upd_o _ _ (by omega)]
              exact hlow i (by omega) X (hX X rfl)
            · rw [upd_o _ _ e, upd_o _ _ (by omega)]
              exact hSrt i j hij (by omega)
          · obtain ⟨h1, h2⟩ := (hMem9 x).1 hx
            by_cases e : i = m
            · subst e
              rw [upd_at]
              obtain ⟨t, ht, rfl⟩ := h1
              rcases vlt_tri (hbest t ht) with e | e
              · exact absurd e h2
              · exact e
            · rw [upd_o _ _ e]
              exact hlow i (by omega) x h1
          · rw [← hall x, mem_put]
            constructor
            · rintro ((h1 | rfl) | h1)
              · exact .inl h1
              · exact .inr (hX _ rfl)
              · exact .inr ((hMem9 x).1 h1).1
            · rintro (h1 | h1)
              · exact .inl (.inl h1)
              · by_cases e : x = X
                · exact .inl (.inr e)
                · exact .inr ((hMem9 x).2 ⟨h1, e⟩)
          · rw [HV6.len, hlen.out]
            omega
end Go.Proofs.Ytjlmiadmobbibaa
