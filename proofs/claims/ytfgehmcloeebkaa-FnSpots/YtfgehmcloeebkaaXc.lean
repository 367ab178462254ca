/-
  Spots, by the program, walked.
-/
import Derived.Test.YtfgehmcloeebkaaXb
namespace Go.Proofs.Ytfgehmcloeebkaa
open Go.RowKit

/-- A block of another type stays where the list grows. -/
theorem Gat.keepT {w0 w w' : World} {B : Nat} {t s : TypeId} {e q : Nat} {v : Value} {m : Nat} {l : List Int} {vs : Array Value} (h : Gat w0 w B t e v m l) (hg : w.grownBy w' v.ownBlock) (ha : At s w q vs) (hst : s ≠ t) : At s w' q vs := by
  refine (hg.block q ha.lt (fun e => ?_)).trans ha
  rcases h.own.2 with ⟨e1, -⟩ | ⟨g, c, cur, rfl, hb, hh, -⟩
  · exact h.nn e1
  · simp only [Value.ownBlock, Option.some.injEq] at e
    subst e
    have h1 := ha
    unfold At at h1
    rw [hh] at h1
    simp only [Option.some.injEq, Obj.cells.injEq] at h1
    exact hst h1.2.1.symm
def spOk (W H : Int) (len : Nat) (f : Nat → Int) (lv : Int) : Prop := frOk W H len f ∧ 1 ≤ lv ∧ lv ≤ 65535
/-- The spots' numbers. -/
noncomputable def spO (W H : Int) (len : Nat) (f : Nat → Int) (lv : Int) : List Nat := @ite _ (spOk W H len f lv) (Classical.propDecidable _) (fil (sp W.toNat len f lv) len) []
theorem spO_yes {W H : Int} {len : Nat} {f : Nat → Int} {lv : Int} (h : spOk W H len f lv) : spO W H len f lv = fil (sp W.toNat len f lv) len := by unfold spO; rw [if_pos h]
theorem spO_no {W H : Int} {len : Nat} {f : Nat → Int} {lv : Int} (h : ¬ spOk W H len f lv) : spO W H len f lv = [] := by unfold spO; rw [if_neg h]
theorem spO_le (W H : Int) (len : Nat) (f : Nat → Int) (lv : Int) : (spO W H len f lv).length ≤ 4096 := by
  by_cases h : spOk W H len f lv
  · rw [spO_yes h]
    have h1 := h.1
    have p1 := mul_in (a := W) (b := H) (x := 64) (y := 64) (by have := h1.1; omega) (by have := h1.2.1; omega)
    have := fil_len (sp W.toNat len f lv) len
    have := h1.2.2.1
    omega
  · rw [spO_no h]; exact Nat.zero_le _
/-- What a call of Spots ends in. -/
def SpP (W H : Int) (len : Nat) (f : Nat → Int) (lv : Int) (w : World) (e : Ending) (w' : World) : Prop := ∃ v, e = .returned v ∧ Gat w w' w.heap.size 37 3 v (spO W H len f lv).length (spL W.toNat f (spO W H len f lv))
set_option maxRecDepth 100000 in
set_option maxHeartbeats 8000000 in
theorem implSpots_any {w : World} {a : Option Addr} {len c : Nat} {f : Nat → Int} (W H lv : Int) (hs : Src w a len f) (hlen : len ≤ 1048576) :
    Calls Try.prog 17 #[fV W H (.slice a len c), .int .i64 lv] w (SpP W H len f lv w) := by
  have hbs : ∀ w, (Instr.buildSlice 34 0 #[]).run Try.prog w = .ok (.slice (some ⟨w.heap.size, 0, none⟩) 0 0) (w.alloc (.cells #[] 37)) := fun _ => by kernel_rfl
  obtain ⟨i0, hi0, hz0, hz1, hz2⟩ := info_parts infoSpot
  obtain ⟨V, hV, b0, bW, -⟩ := boxed w 26 #[.int .i64 W, .int .i64 H, .slice a len c]
  obtain ⟨V1, hV1, a1, bb, -⟩ := boxed V 37 #[]
  have s0 := b0.lt
  have z1 := a1.lt
  replace b0 := b0.below bb
  replace bW := bW.trans (bb.mono bW.size)
  clear bb
  have G : Gat w V1 w.heap.size 37 3 (.slice (some ⟨V.heap.size, 0, none⟩) 0 0) 0 [] :=
    ⟨⟨rfl, .inr ⟨V.heap.size, 0, #[], rfl, by omega, a1, Nat.le_refl _, Nat.zero_le _, rfl, rfl⟩⟩, ne_nil _ _ _, bW, Nat.le_refl _, bW.size⟩
  clear a1
  go_enter Try.func17, Try.ntmps17
  obtain ⟨oc00, oc01, oc02, -⟩ := b0.open3
  go_wp2_with fail
  refine (implFrameOk_any W H (hs.below bW) hlen).mono ?_
  rintro e w3 ⟨rfl, bb⟩
  clear oc00 oc01 oc02
  replace b0 := b0.below bb
  replace G := G.below bb
  replace bW := bW.trans (bb.mono bW.size)
  have z_w3 := bb.size
  clear bb
  clear hV hV1 hbs
  rcases hfr : frB W H len f with _ | _
  · have hno : ¬ spOk W H len f lv := fun h => frB_not hfr h.1
    clear hfr
    go_wp2
    go_ret
    exact ⟨_, rfl, by rw [spO_no hno]; exact G⟩
  · have hok := frB_of hfr
    by_cases hl1 : lv < 1
    · have hno : ¬ spOk W H len f lv := fun h => by have := h.2; omega
      go_wp2
      go_ret
      exact ⟨_, rfl, by rw [spO_no hno]; exact G⟩
    by_cases hl2 : 65535 < lv
    · have hno : ¬ spOk W H len f lv := fun h => by have := h.2; omega
      go_wp2
      go_ret
      exact ⟨_, rfl, by rw [spO_no hno]; exact G⟩
    have hyes : spOk W H len f lv := ⟨hok, by omega, by omega⟩
    have HE : SpP W H len f lv w = fun e w' => ∃ v, e = .returned v ∧ Gat w w' w.heap.size 37 3 v (fil (sp W.toNat len f lv) len).length (spL W.toNat f (fil (sp W.toNat len f lv) len)) := by
      funext e w'
      unfold SpP
      rw [spO_yes hyes]
    have HEnd : ∀ v w', Gat w w' w.heap.size 37 3 v (fil (sp W.toNat len f lv) len).length (spL W.toNat f (fil (sp W.toNat len f lv) len)) → SpP W H len f lv w (.returned v) w' := fun v w' h => by
      rw [HE]; exact ⟨v, rfl, h⟩
    obtain ⟨hW, hH, hl, hf⟩ := hok
    obtain ⟨N, rfl⟩ : ∃ N : Nat, W = (N : Int) := ⟨W.toNat, by omega⟩
    obtain ⟨M, rfl⟩ : ∃ M : Nat, H = (M : Int) := ⟨H.toNat, by omega⟩
    have hN : 1 ≤ N ∧ N ≤ 64 := by omega
    have hM : 1 ≤ M ∧ M ≤ 64 := by omega
    have hMN : M * N = len := by
      have : ((M * N : Nat) : Int) = (len : Int) := by rw [hl, Int.natCast_mul, Int.mul_comm]
      omega
    have hl4 : len ≤ 4096 := by
      have := Nat.mul_le_mul hM.2 hN.2
      omega
    have hl0 : 0 < len := by
      have := Nat.mul_pos (show 0 < M by omega) (show 0 < N by omega)
      omega
    have HMN : Hid (M * N = len) := hMN
    have hNM : (N : Int) * (M : Int) = (len : Int) := hl.symm
    clear hMN HE hfr hyes hl
    rcases hs with h0 | ⟨b, off, rfl, hb, hr⟩
    · omega
    simp only [Int.toNat_natCast] at HEnd
    obtain ⟨oc00, oc01, oc02, -⟩ := b0.open3
    go_wp2_with fail
    refine (detectorOf_any N M _ len c _).mono ?_
    rintro e w4 ⟨rfl, bb⟩
    clear oc00 oc01 oc02
    replace G := G.below bb
    replace bW := bW.trans (bb.mono bW.size)
    have z_w4 := bb.size
    clear bb
    clear b0
    obtain ⟨V5, hV5, d0, bb, -⟩ := boxed w4 58 #[.int .i64 N, .int .i64 M, .slice (some ⟨b, off, none⟩) len c]
    replace G := G.below bb
    replace bW := bW.trans (bb.mono bW.size)
    have z_V5 := d0.lt
    clear bb
    obtain ⟨oc00, oc01, oc02, -⟩ := d0.open3
    go_wp2_with fail
    refine (size_any N M _ hW hH).mono ?_
    rintro e w6 ⟨rfl, bb⟩
    clear oc00 oc01 oc02
    replace G := G.below bb
    replace d0 := d0.below bb
    replace bW := bW.trans (bb.mono bW.size)
    have z_w6 := bb.size
    clear bb
    clear hV5
    rw [hNM]
    clear hNM
    have r0 : Gat w w6 w.heap.size 37 3 (.slice (some ⟨V.heap.size, 0, none⟩) 0 0) (fil (sp N len f lv) 0).length (spL N f (fil (sp N len f lv) 0)) ∧ At 58 w6 w4.heap.size #[.int .i64 N, .int .i64 M, .slice (some ⟨b, off, none⟩) len c] := ⟨G, d0⟩
    clear G d0 bW
    go_wp2_with fail
    go_loopw [5, 28] (fun s5 s28 wr => ∃ k : Nat, k ≤ len ∧ s28 = .int .i64 k ∧ Gat w wr w.heap.size 37 3 s5 (fil (sp N len f lv) k).length (spL N f (fil (sp N len f lv) k)) ∧ At 58 wr w4.heap.size #[.int .i64 N, .int .i64 M, .slice (some ⟨b, off, none⟩) len c]) (fun _ s28 _ => len - (intOf s28).toNat)
    case atStart => exact ⟨0, Nat.zero_le _, rfl, r0⟩
    case round =>
      clear r0
      obtain ⟨k, hk, rfl, G, d0⟩ := hrel
      have bW := G.b
      by_cases hlt : k < len
      · have hlt' : (k : Int) < (len : Int) := by omega
        have g0 := (bW.cell (p := ⟨b, off + k, none⟩) hb).trans (hr k hlt)
        have hFk := hf k hlt
        obtain ⟨F, hF⟩ : ∃ F, f k = F := ⟨_, rfl⟩
        rw [hF] at g0 hFk
        obtain ⟨c0, c1, c2, -⟩ := d0.open3
        by_cases q1 : lv ≤ F
        · go_wp2_with fail
          refine (isSpot_any N M k (Nat.lt_of_lt_of_le hb bW.size) (hr.below hb bW) hf hN hM HMN.out hlt).mono ?_
          rintro e w7 ⟨rfl, bb⟩
          replace G := G.below bb
          replace d0 := d0.below bb
          replace bW := G.b
          clear bb c0 c1 c2 g0
          rcases htop : topB N len f k with _ | _
          · have hno := fil_no (k := k) (sp_no (N := N) (len := len) (f := f) (lv := lv) (fun h => by rw [topB_iff.2 h.2] at htop; cases htop))
            rw [← hno] at G
            go_wp2
            exact ⟨⟨k + 1, by omega, by go_num, G, d0⟩, by simp [intOf]; omega⟩
          · have hyes := fil_yes (k := k) (sp_iff.2 ⟨hF ▸ q1, topB_iff.1 htop⟩ : sp N len f lv k = true)
            have hLl := fil_len (sp N len f lv) k
            clear htop
            obtain ⟨c0, c1, c2, -⟩ := d0.open3
            go_wp2_with fail
            refine (place_any N k M _ hN (by omega)).mono ?_
            rintro e w8 ⟨rfl, bb⟩
            replace G := G.below bb
            replace d0 := d0.below bb
            replace bW := G.b
            clear bb c0 c1 c2
            obtain ⟨c0, c1, c2, -⟩ := d0.open3
            have g0 := (bW.cell (p := ⟨b, off + k, none⟩) hb).trans (hr k hlt)
            rw [hF] at g0
            obtain ⟨X, hX⟩ : ∃ X : Int, ((k % N : Nat) : Int) = X := ⟨_, rfl⟩
            obtain ⟨Y, hY⟩ : ∃ Y : Int, ((k / N : Nat) : Int) = Y := ⟨_, rfl⟩
            have hsn := spL_snoc N f (fil (sp N len f lv) k) k
            rw [hX, hY, hF, ← hyes] at hsn
            have hln : (fil (sp N len f lv) (k + 1)).length = (fil (sp N len f lv) k).length + 1 := by rw [hyes]; simp
            generalize fil (sp N len f lv) k = L at G hLl hsn hln
            rw [hX, hY]
            have hb1 : ∀ w, (Instr.buildSlice 34 1 #[(0, .agg #[.int .i64 X, .int .i64 Y, .int .i64 F])]).run Try.prog w = .ok (.slice (some ⟨w.heap.size, 0, none⟩) 1 1) (w.alloc (.cells #[.int .i64 X, .int .i64 Y, .int .i64 F] 37)) := fun _ => by kernel_rfl
            obtain ⟨V9, hV9, A9, bb, -⟩ := boxed w8 37 #[.int .i64 X, .int .i64 Y, .int .i64 F]
            replace G := G.below bb
            replace d0 := d0.below bb
            clear bb hyes
            go_wp2_with (at_builtin; refine wpList_append_own _ rfl _ _ _ rfl w.heap.size 37 i0 _ 3 24 Try.underlying34 hi0 hz0 hz1 hz2 rfl (by omega) u5 L.length (lCells (spL N f L)) rfl G.own ⟨w8.heap.size, 0, none⟩ 1 1 (lCells [X, Y, F]) rfl rfl (news3 A9) (lCells_one _) (by unfold maxLen; omega) (by omega) G.o3 ?_; intro v2 w9 hown2 hgrow2 hne2)
            have G9 := G.grow hown2 hgrow2 (fun e => by have := (hne2.1 e).2; omega)
            rw [← hln, ← hsn] at G9
            exact ⟨⟨k + 1, by omega, by go_num, G9, G.keepT hgrow2 d0 (by decide)⟩, by simp [intOf]; omega⟩
        · have hno := fil_no (k := k) (sp_no (N := N) (len := len) (f := f) (lv := lv) (fun h => q1 (hF ▸ h.1)))
          rw [← hno] at G
          go_wp2
          exact ⟨⟨k + 1, by omega, by go_num, G, d0⟩, by simp [intOf]; omega⟩
      · have hlt' : ¬ (k : Int) < (len : Int) := by omega
        obtain rfl : k = len := by omega
        go_wp2
        go_ret
        exact HEnd _ _ G
end Go.Proofs.Ytfgehmcloeebkaa
