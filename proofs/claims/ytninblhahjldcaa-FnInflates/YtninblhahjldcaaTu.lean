/-
  Inflate, by the specification: walked.
-/
import Derived.Test.YtninblhahjldcaaTh
import Derived.Test.YtninblhahjldcaaTa
namespace Go.Proofs.Ytninblhahjldcaa
open Go.RowKit

/-- A row inflated n times, as long as all are rows. -/
def gr : Nat → List UInt8 → Option (List UInt8)
  | 0, L => some L
  | n + 1, L => if (infl L).length ≤ 20000 then gr n (infl L) else none
/-- A list of letters that is read. -/
def BySrc (w : World) (v : Value) (L : List UInt8) : Prop := ∃ g c, v = .slice (some ⟨g, 0, none⟩) L.length c ∧ L.length ≤ c ∧ g < w.heap.size ∧ ∀ i (h : i < L.length), w.cell? ⟨g, i, none⟩ = some (.int .u8 (L[i].toNat : Int))
theorem BySrc.below {w w' : World} {v : Value} {L : List UInt8} (h : BySrc w v L) (hb : Below w.heap.size w w') : BySrc w' v L := by
  obtain ⟨g, c, h1, h2, h3, h4⟩ := h
  exact ⟨g, c, h1, h2, Nat.lt_of_lt_of_le h3 hb.size, fun i hi => (hb.cell (p := ⟨g, i, none⟩) h3).trans (h4 i hi)⟩
theorem BySrc.text {w : World} {v : Value} {L : List UInt8} (h : BySrc w v L) : (convert 22 9 v).run Try.prog w = .ok (.string ⟨L.toArray⟩) w := by
  obtain ⟨g, c, rfl, h2, h3, h4⟩ := h
  exact run_convert_bytes_back w 22 9 5 ⟨g, 0, none⟩ c L Try.underlying22 Try.underlying5 Try.underlying9 fun j hj => by rw [Addr.add_lit, Nat.zero_add]; exact h4 j hj
theorem ByR.src {w : World} {base : Nat} {v : Value} {L : List UInt8} (h : ByR w base v L) : BySrc w v L := by
  obtain ⟨h0, hl, h1⟩ := h
  rcases h1 with ⟨h1, -⟩ | ⟨g, c, cur, rfl, hb, hh, hc1, hc2, hsz, ht⟩
  · exact absurd h1 h0
  · refine ⟨g, c, rfl, hc1, (Array.getElem?_eq_some_iff.1 hh).1, fun j hj => ?_⟩
    have a1 : (bCells L)[j]? = some (.int .u8 (L[j].toNat : Int)) := by simp [bCells, hj]
    rw [← ht] at a1
    rw [List.getElem?_take_of_lt (by omega)] at a1
    simp only [World.cell?, hh]
    simpa using a1
theorem bytes_src (w : World) (L : List UInt8) (c : Nat) (hc : L.length ≤ c) (fr : Nat × Nat) : BySrc (w.drew.alloc (.cells (bytesRow (tx L) c) 5 fr)) (.slice (some ⟨w.heap.size, 0, none⟩) (tx L).size c) L := by
  refine ⟨w.heap.size, c, by rw [tx_size], hc, by rw [World.size_alloc]; exact Nat.lt_succ_self _, fun i hi => ?_⟩
  have h := World.cell?_alloc_mark w.drew (bytesRow (tx L) c) 5 fr i
  have h2 := bytesRow_at (tx L) c i (by simpa using hi)
  rw [h2] at h
  simpa using h
set_option maxRecDepth 100000 in
set_option maxHeartbeats 1000000 in
theorem specInfl_yes (L : List UInt8) (t : Nat) (w : World) (h : rowOk (tx L) 20000 = true) (ht : t ≤ 30) : Calls Try.prog 11 #[.string (tx L), .int .i64 t] w fun e w' => e = .returned (.tuple #[.string (tx ((gr t L).getD [])), .bool (gr t L).isSome]) ∧ Below w.heap.size w w' := by
  obtain ⟨hs, -⟩ := rowOk_iff.1 h
  rw [tx_size] at hs
  have ht0 : (0 : Int) ≤ t := by omega
  have ht1 : (t : Int) ≤ 30 := by omega
  have cv := run_bytes_of_string (P := Try.prog) w 9 22 5 (tx L) Try.underlying9 Try.underlying22 Try.underlying5
  have hcap := grownCap_ge w (tx L).size 0 5
  have sr := bytes_src w L (grownCap w (tx L).size 0 5) (by rw [tx_size] at hcap; rw [tx_size]; exact hcap) ((bytesRow (tx L) (grownCap w (tx L).size 0 5)).size, (bytesRow (tx L) (grownCap w (tx L).size 0 5)).size + 1)
  obtain ⟨W, hW, bW⟩ : ∃ W, (w.drew.alloc (.cells (bytesRow (tx L) (grownCap w (tx L).size 0 5)) 5 ((bytesRow (tx L) (grownCap w (tx L).size 0 5)).size, (bytesRow (tx L) (grownCap w (tx L).size 0 5)).size + 1))) = W ∧ Below w.heap.size w W := ⟨_, rfl, (Below.refl _ w).drew.alloc (Nat.le_refl _) _⟩
  rw [hW] at cv sr
  obtain ⟨v0, hv0⟩ : ∃ v, Value.slice (some ⟨w.heap.size, 0, none⟩) (tx L).size (grownCap w (tx L).size 0 5) = v := ⟨_, rfl⟩
  rw [hv0] at cv sr
  clear hW hv0 hcap
  go_enter Try.func11, Try.ntmps11
  go_wp2_with (first | (go_at_call 32; refine (l9Row_any _ _ _ (by decide)).mono ?_; rintro e w2 ⟨rfl, rfl⟩; rw [h]) | (go_at_call 33; refine (in64_any _ _ _ _).mono ?_; rintro e w2 ⟨rfl, rfl⟩))
  have H : Hid (gr t L = gr t L) := rfl
  go_loopw [1, 6] (fun x v wr => ∃ (k : Nat) (B : List UInt8), k ≤ 30 ∧ x = .int .i64 k ∧ BySrc wr v B ∧ B.length ≤ 20000 ∧ gr k B = gr t L ∧ Below w.heap.size w wr) (fun x _ _ => (intOf x).toNat)
  case atStart => exact ⟨t, L, ht, rfl, sr, by omega, rfl, bW⟩
  case round =>
    clear H cv sr bW hs ht ht0 ht1
    obtain ⟨k, B, hk, rfl, src, hB, hg, bW⟩ := hrel
    have HG : Hid (gr k B = gr t L) := hg
    clear hg
    by_cases hz : k = 0
    · subst hz
      have htx := src.text
      have hr : gr t L = some B := HG.out.symm
      go_wp2
      rw [hr]
      exact bodyPost_ret (v := .tuple #[.string (tx B), .bool true]) (by simp [results, Try.results11, go_sem]) rfl ⟨rfl, bW⟩
    · have hk0 : (0 : Int) < k := by omega
      have hkn : 0 < k := by omega
      have hkd := decide_eq_true hkn
      obtain ⟨Wi, rfl⟩ : ∃ Wi, Wi = wr := ⟨_, rfl⟩
      have o0 := byR_new Wi
      obtain ⟨g, c, rfl, hc, hgl, hcell⟩ := src
      have SR : Hid (∀ i (h : i < B.length), Wi.cell? ⟨g, i, none⟩ = some (.int .u8 (B[i].toNat : Int))) := hcell
      clear hcell
      have hk30 : (k : Int) ≤ 30 := by omega
      go_wp2
      go_loopw [7, 8] (fun v x wr => ∃ (i : Nat), i ≤ B.length ∧ ∃ M, infl (B.take i) = M ∧ x = .int .i64 i ∧ ByR wr Wi.heap.size v M ∧ Below Wi.heap.size Wi wr) (fun _ x _ => B.length - (intOf x).toNat)
      case atStart => exact ⟨0, Nat.zero_le _, [], rfl, rfl, o0, below_alloc _ _⟩
      case round =>
        obtain ⟨i, hi, M, hM, rfl, own, bI⟩ := hrel
        have HM : Hid (infl (B.take i) = M) := hM
        have hMl : M.length ≤ 40000 := by rw [← hM]; have := (infl_len (B.take i)).2; rw [List.length_take] at this; omega
        clear hM o0
        obtain ⟨i0, hi0, hz0, hz1, hz2⟩ := info_parts infoB
        have lw2 := bI.size
        by_cases hlt : i < B.length
        · have hlt' : (i : Int) < B.length := by omega
          have hcl := (bI.cell (p := ⟨g, i, none⟩) hgl).trans (SR.out i hlt)
          have bA : Below Wi.heap.size Wi (wr.alloc (.cells #[.int .u8 76] 5)) := bI.alloc bI.size _
          have HT : Hid (B.take (i + 1) = B.take i ++ [B[i]]) := by show B.take (i + 1) = _; rw [List.take_add_one, List.getElem?_eq_getElem hlt]; rfl
          by_cases h1 : B[i] = 76
          · have H1 : Hid (B[i] = 76) := h1
            rw [h1] at hcl
            clear h1
            go_wp2_with (at_builtin; refine wpList_append_lies _ rfl _ _ _ rfl Wi.heap.size 5 i0 _ 1 1 Try.underlying22 hi0 hz0 hz1 hz2 rfl (by omega) u7 M.length (bCells M) rfl (own.2.alloc _) ⟨wr.heap.size, 0, none⟩ 1 1 [.int .u8 76] rfl rfl (World.news_of_block (cs := #[.int .u8 76]) (t := 5) (fr := (0, 0)) (heap_alloc_new wr _)) (by simp [Value.oneCell']) (by omega) (by unfold maxLen; omega) (by omega) (by simp; omega) (wr.heap.size + 1) (by simp) ?_; intro gw2 gcapw2 w2 hownw2 hgroww2 hatw2 hltw2; refine Hid.out (?_ : Hid _))
            have b2 := below_grown9 bA hgroww2 (fun b hb => ownBlock_ge9 own.2 hb) bA.size
            have own2 : ByR w2 Wi.heap.size (.slice (some ⟨gw2, 0, none⟩) (M.length + 1) gcapw2) (M ++ [76]) := ⟨(by intro h; cases h), by simpa [bCells] using hownw2⟩
            have lw3 := b2.size
            have bB : Below Wi.heap.size Wi (w2.alloc (.cells #[.int .u8 83] 5)) := b2.alloc b2.size _
            have hM2 : (M ++ [76]).length ≤ 40001 := by simp; omega
            have hcl2 : w2.cell? ⟨g, i, none⟩ = some (.int .u8 76) := (b2.cell (p := ⟨g, i, none⟩) hgl).trans (by rw [SR.out i hlt, H1.out]; rfl)
            clear hgroww2 hownw2 own bA hcl
            refine (?_ : wpList _ _ _ _ _ _)
            go_wp2_with (at_builtin; refine wpList_append_lies _ rfl _ _ _ rfl Wi.heap.size 5 i0 _ 1 1 Try.underlying22 hi0 hz0 hz1 hz2 rfl (by omega) (.slice (some ⟨gw2, 0, none⟩) (M.length + 1) gcapw2) (M ++ [76]).length (bCells (M ++ [76])) rfl (own2.2.alloc _) ⟨w2.heap.size, 0, none⟩ 1 1 [.int .u8 83] rfl rfl (World.news_of_block (cs := #[.int .u8 83]) (t := 5) (fr := (0, 0)) (heap_alloc_new w2 _)) (by simp [Value.oneCell']) (by omega) (by unfold maxLen; omega) (by omega) (by simp; omega) (w2.heap.size + 1) (by simp) ?_; intro gw3 gcapw3 w3 hownw3 hgroww3 hatw3 hltw3)
            refine ⟨⟨i + 1, by omega, M ++ [76] ++ [83], ?_, by go_num, ⟨(by intro h; cases h), by simpa [bCells] using hownw3⟩, below_grown9 bB hgroww3 (fun b hb => ownBlock_ge9 own2.2 hb) bB.size⟩, by simp [intOf]; omega⟩
            rw [HT.out, infl_add, HM.out, H1.out]; simp [inf1]
          · have H1 : Hid (¬ B[i] = 76) := h1
            obtain ⟨x, hx⟩ : ∃ x, (B[i].toNat : Int) = x := ⟨_, rfl⟩
            have h1' : (x == 76) = false := by rw [← hx]; simp only [beq_eq_false_iff_ne, ne_eq]; exact fun e => h1 (byte_eq.1 e)
            have HX : Hid (Wi.cell? ⟨g, i, none⟩ = some (.int .u8 x)) := by show Wi.cell? ⟨g, i, none⟩ = _; rw [SR.out i hlt, hx]
            clear h1 hx hcl
            go_wp2_with (at_builtin; refine wpList_append_lies _ rfl _ _ _ rfl Wi.heap.size 5 i0 _ 1 1 Try.underlying22 hi0 hz0 hz1 hz2 rfl (by omega) u7 M.length (bCells M) rfl (own.2.alloc _) ⟨wr.heap.size, 0, none⟩ 1 1 [.int .u8 76] rfl rfl (World.news_of_block (cs := #[.int .u8 76]) (t := 5) (fr := (0, 0)) (heap_alloc_new wr _)) (by simp [Value.oneCell']) (by omega) (by unfold maxLen; omega) (by omega) (by simp; omega) (wr.heap.size + 1) (by simp) ?_; intro gw2 gcapw2 w2 hownw2 hgroww2 hatw2 hltw2; refine Hid.out (?_ : Hid _))
            have b2 := below_grown9 bA hgroww2 (fun b hb => ownBlock_ge9 own.2 hb) bA.size
            have hcl2 : w2.cell? ⟨g, i, none⟩ = some (.int .u8 x) := (b2.cell (p := ⟨g, i, none⟩) hgl).trans HX.out
            refine (?_ : wpList _ _ _ _ _ _)
            go_wp2
            refine ⟨⟨i + 1, by omega, M ++ [76], ?_, by go_num, ⟨(by intro h; cases h), by simpa [bCells] using hownw2⟩, b2⟩, by simp [intOf]; omega⟩
            rw [HT.out, infl_add, HM.out]; simp [inf1, H1.out]
        · have hlt' : ¬ (i : Int) < B.length := by omega
          obtain rfl : i = B.length := by omega
          have hMB : infl B = M := by have := HM.out; rw [List.take_length] at this; exact this
          obtain ⟨j, rfl⟩ : ∃ j, k = j + 1 := ⟨k - 1, by omega⟩
          have b3 := bW.trans (bI.mono bW.size)
          have src3 := own.src
          obtain ⟨g3, c3, rfl, hc3, hgl3, hcell3⟩ := src3
          have SR3 : Hid (BySrc wr (.slice (some ⟨g3, 0, none⟩) M.length c3) M) := ⟨g3, c3, rfl, hc3, hgl3, hcell3⟩
          clear hcell3 own
          by_cases hbig : M.length ≤ 20000
          · have hbig' : (M.length : Int) ≤ 20000 := by omega
            have HG2 : Hid (gr j M = gr t L) := by show gr j M = _; rw [← HG.out, gr, hMB, if_pos hbig]
            go_wp2
            exact ⟨⟨j, M, by omega, by go_num, SR3.out, hbig, HG2.out, b3⟩, by simp [intOf]⟩
          · have hbig' : ¬ (M.length : Int) ≤ 20000 := by omega
            have HG2 : gr t L = none := by rw [← HG.out, gr, hMB, if_neg hbig]
            go_wp2
            exact bodyPost_ret (v := .tuple #[.string ⟨#[]⟩, .bool false]) (by simp [results, Try.results11, go_sem]) rfl ⟨rfl, b3⟩
end Go.Proofs.Ytninblhahjldcaa
