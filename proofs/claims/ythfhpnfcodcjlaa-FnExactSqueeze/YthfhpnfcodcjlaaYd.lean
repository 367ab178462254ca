/-
  Squeeze, by the specification, walked.
-/
import Derived.Test.YthfhpnfcodcjlaaYc
namespace Go.Proofs.Ythfhpnfcodcjlaa
open Go.RowKit

/-- What stays while the list grows: blocks of other types. -/
def KeepO (w w' : World) : Prop := ∀ (s : TypeId) (q : Nat) (vs : Array Value), s ≠ 5 → At s w q vs → At s w' q vs
set_option maxRecDepth 100000 in
set_option maxHeartbeats 4000000 in
theorem small_any {w0 w : World} {B n : Nat} {v : Value} {l : List Int} (G : GaB w0 w B v l) (hn : n ≤ 131070) (hl : l.length ≤ 100000) :
    Calls Try.prog 64 #[v, .int .i64 (n : Int)] w fun e w' => ∃ v', e = .returned v' ∧ GaB w0 w' B v' (l ++ gr 2 n) ∧ KeepO w w' := by
  obtain ⟨i0, hi0, hz0, hz1, hz2⟩ := info_parts infoB
  have hgl2 := (gr_len 2 n).2
  go_enter Try.func64, Try.ntmps64
  go_wp2_with fail
  go_loopw [0, 1] (fun s0 s1 wr => ∃ j m : Nat, ∃ L : List Int, s1 = .int .i64 (m : Int) ∧ m < 128 ^ (j + 1) ∧ j ≤ 2 ∧ l ++ gr 2 n = L ++ gr j m ∧ GaB w0 wr B s0 L ∧ KeepO w wr) (fun _ s1 _ => (intOf s1).toNat)
  case atStart => exact ⟨2, n, l, rfl, by omega, Nat.le_refl _, rfl, G, fun _ _ _ _ h => h⟩
  case round =>
    clear G
    obtain ⟨j, m, L, rfl, hm, hj, hg, G, KO⟩ := hrel
    have hLl : L.length ≤ 100003 := by
      have := congrArg List.length hg
      simp at this
      omega
    have HG : Hid (l ++ gr 2 n = L ++ gr j m) := hg
    clear hg
    have HK : Hid (KeepO w wr) := KO
    clear KO
    by_cases hlt : m < 128
    · have hlt' : ¬ (127 : Int) < (m : Int) := by omega
      obtain ⟨x, hx⟩ : ∃ x, (m : Int) = x := ⟨_, rfl⟩
      have HG2 : Hid (l ++ gr 2 n = L ++ [x]) := by have := HG.out; rw [gr_small hlt, hx] at this; exact this
      rw [hx] at hlt' ⊢
      have hx1 : 0 ≤ x ∧ x ≤ 127 := by omega
      have hb1 : ∀ w, (Instr.buildSlice 22 1 #[(0, .int .u8 x)]).run Try.prog w = .ok (.slice (some ⟨w.heap.size, 0, none⟩) 1 1) (w.alloc (.cells #[.int .u8 x] 5)) := fun _ => by kernel_rfl
      obtain ⟨V9, hV9, A9, bb, -⟩ := boxed wr 5 #[.int .u8 x]
      replace G := G.below bb
      have KB : Hid (Below wr.heap.size wr V9) := bb
      clear bb hx HG
      go_wp2_with (at_builtin; refine wpList_append_own _ rfl _ _ _ rfl B 5 i0 _ 1 1 Try.underlying22 hi0 hz0 hz1 hz2 rfl (by omega) u0 L.length (bCl L) rfl G.own ⟨wr.heap.size, 0, none⟩ 1 1 (bCl [x]) rfl rfl (newsB A9) (bCl_one _) (by unfold maxLen; omega) (by omega) G.o3 ?_; intro v2 w9 hown2 hgrow2 hne2)
      go_ret
      refine ⟨v2, rfl, ?_, fun s q vs hs h => G.keepT hgrow2 ((HK.out s q vs hs h).below KB.out) hs⟩
      rw [HG2.out]
      exact G.grow hown2 hgrow2 (fun e => by have := (hne2.1 e).2; omega)
    · have hlt' : (127 : Int) < (m : Int) := by omega
      obtain ⟨j', rfl⟩ : ∃ j', j = j' + 1 := by
        cases j with
        | zero => simp at hm; omega
        | succ j' => exact ⟨j', rfl⟩
      have hm3 : m < 2097152 := by have : (128 : Nat) ^ (j' + 1 + 1) ≤ 128 ^ 3 := Nat.pow_le_pow_right (by omega) (by omega); omega
      obtain ⟨x, hx⟩ : ∃ x, ((128 + m % 128 : Nat) : Int) = x := ⟨_, rfl⟩
      have HG2 : Hid (l ++ gr 2 n = (L ++ [x]) ++ gr j' (m / 128)) := by have := HG.out; rw [gr_big hlt, hx] at this; exact this.trans (by simp)
      have hx1 : 0 ≤ x ∧ x ≤ 255 := by omega
      have hxt : (128 : Int) + (m : Int) % 128 = x := by omega
      have hb1 : ∀ w, (Instr.buildSlice 22 1 #[(0, .int .u8 x)]).run Try.prog w = .ok (.slice (some ⟨w.heap.size, 0, none⟩) 1 1) (w.alloc (.cells #[.int .u8 x] 5)) := fun _ => by kernel_rfl
      obtain ⟨V9, hV9, A9, bb, -⟩ := boxed wr 5 #[.int .u8 x]
      replace G := G.below bb
      have KB : Hid (Below wr.heap.size wr V9) := bb
      have wrx : IntKind.i64.wrap (128 + (m : Int) % 128) = x := (IntWalk.i64_in _ (by omega)).trans hxt
      clear bb hx HG hxt
      go_wp2_with (at_builtin; refine wpList_append_own _ rfl _ _ _ rfl B 5 i0 _ 1 1 Try.underlying22 hi0 hz0 hz1 hz2 rfl (by omega) u0 L.length (bCl L) rfl G.own ⟨wr.heap.size, 0, none⟩ 1 1 (bCl [x]) rfl rfl (newsB A9) (bCl_one _) (by unfold maxLen; omega) (by omega) G.o3 ?_; intro v2 w9 hown2 hgrow2 hne2)
      refine ⟨⟨j', m / 128, L ++ [x], by simp, ?_, by omega, HG2.out, G.grow hown2 hgrow2 (fun e => by have := (hne2.1 e).2; omega), fun s q vs hs h => G.keepT hgrow2 ((HK.out s q vs hs h).below KB.out) hs⟩, by simp [intOf]; omega⟩
      refine Nat.div_lt_of_lt_mul ?_
      rw [Nat.mul_comm, ← Nat.pow_succ]
      exact hm
set_option maxRecDepth 100000 in
set_option maxHeartbeats 8000000 in
theorem specSq_any {w : World} {a : Option Addr} {len c : Nat} {f : Nat → Int} (W H : Int) (hs : Src w a len f) (hlen : len ≤ 1048576) :
    Calls Try.prog 29 #[fV W H (.slice a len c)] w (SqP W H len f w) := by
  obtain ⟨V, hV, b0, bW, -⟩ := boxed w 26 #[.int .i64 W, .int .i64 H, .slice a len c]
  have z_V := b0.lt
  go_enter Try.func29, Try.ntmps29
  obtain ⟨oc00, oc01, oc02, -⟩ := b0.open3
  go_wp2_with fail
  refine (specFrameOk_any W H (hs.below bW) hlen).mono ?_
  rintro e w3 ⟨rfl, bb⟩
  clear oc00 oc01 oc02
  replace b0 := b0.below bb
  replace bW := bW.trans (bb.mono bW.size)
  have z_w3 := bb.size
  clear bb
  clear hV
  rcases hfr : frB W H len f with _ | _
  · have hno := frB_not hfr
    have hbs : ∀ w, (Instr.buildSlice 22 0 #[]).run Try.prog w = .ok (.slice (some ⟨w.heap.size, 0, none⟩) 0 0) (w.alloc (.cells #[] 5)) := fun _ => by kernel_rfl
    clear hfr
    obtain ⟨V4, hV4, a4, bb, -⟩ := boxed w3 5 #[]
    have z4 := a4.lt
    replace bW := bW.trans (bb.mono bW.size)
    go_wp2
    go_ret
    refine ⟨_, rfl, ?_, bW⟩
    rw [sqO_no hno]
    exact ⟨w3.heap.size, 0, #[], rfl, by omega, z4, Nat.le_refl _, Nat.zero_le _, a4, fun i hi => absurd hi (Nat.not_lt_zero _)⟩
  · have hok := frB_of hfr
    have HE : Hid (sqO W H len f = W :: H :: sqL f len) := sqO_yes hok
    obtain ⟨hW, hH, hl, hf⟩ := hok
    have p1 := mul_in (a := W) (b := H) (x := 64) (y := 64) (by omega) (by omega)
    have hl4 : len ≤ 4096 := by omega
    have hl0 : 0 < len := by
      have := Int.mul_pos (show (0 : Int) < W by omega) (show (0 : Int) < H by omega)
      omega
    rcases hs with h0 | ⟨b, off, rfl, hb, hr⟩
    · omega
    have hb2 : ∀ w, (Instr.buildSlice 22 2 #[(0, .int .u8 W), (1, .int .u8 H)]).run Try.prog w = .ok (.slice (some ⟨w.heap.size, 0, none⟩) 2 2) (w.alloc (.cells #[.int .u8 W, .int .u8 H] 5)) := fun _ => by kernel_rfl
    obtain ⟨c0, c1, c2, -⟩ := b0.open3
    obtain ⟨V8, hV8, wh, bb, -⟩ := boxed w3 5 #[.int .u8 W, .int .u8 H]
    replace b0 := b0.below bb
    replace bW := bW.trans (bb.mono bW.size)
    have z_V8 := wh.lt
    clear bb
    have G : GaB w V8 w.heap.size (.slice (some ⟨w3.heap.size, 0, none⟩) 2 2) (W :: H :: sqL f 0) :=
      ⟨⟨rfl, .inr ⟨w3.heap.size, 2, _, rfl, by omega, wh, Nat.le_refl _, by unfold maxLen; omega, rfl, rfl⟩⟩, ne_nil _ _ _, bW, Nat.le_refl _, bW.size⟩
    have r0 : GaB w V8 w.heap.size (.slice (some ⟨w3.heap.size, 0, none⟩) 2 2) (W :: H :: sqL f 0) ∧ At 26 V8 w.heap.size #[.int .i64 W, .int .i64 H, .slice (some ⟨b, off, none⟩) len c] := ⟨G, b0⟩
    clear G wh bW hfr hl
    go_wp2_with fail
    clear hV8 hb2 c0 c1 c2 b0
    go_loopw [3, 4, 5] (fun s3 s4 s5 wr => ∃ k : Nat, ∃ l : List Int, k ≤ len ∧ s5 = .int .i64 (k : Int) ∧ s4 = .int .i64 (la f k) ∧ l = W :: H :: sqL f k ∧ GaB w wr w.heap.size s3 l ∧ At 26 wr w.heap.size #[.int .i64 W, .int .i64 H, .slice (some ⟨b, off, none⟩) len c]) (fun _ _ s5 _ => len - (intOf s5).toNat)
    case atStart => exact ⟨0, _, Nat.zero_le _, rfl, rfl, rfl, r0⟩
    case round =>
      clear r0
      obtain ⟨k, l, hk, rfl, rfl, hle, G, b0⟩ := hrel
      have hll : l.length ≤ 100000 := by
        have := sqL_len f k
        rw [hle]
        simp
        omega
      obtain ⟨c0, c1, c2, -⟩ := b0.open3
      by_cases hlt : k < len
      · have hlt' : (k : Int) < (len : Int) := by omega
        have hF := hf k hlt
        have hA : 0 ≤ la f k ∧ la f k ≤ 65535 := by
          unfold la
          split
          · omega
          · exact hf (k - 1) (by omega)
        have hnext : l ++ gr 2 (fo (f k - la f k)) = W :: H :: sqL f (k + 1) := by rw [hle]; rfl
        have hla : la f (k + 1) = f k := by simp [la]
        have g0 := (G.b.cell (p := ⟨b, off + k, none⟩) hb).trans (hr k hlt)
        have HN : Hid (l ++ gr 2 (fo (f k - la f k)) = W :: H :: sqL f (k + 1) ∧ la f (k + 1) = f k) := ⟨hnext, hla⟩
        have HG0 : Hid (Ints w b off len f) := hr
        have hFe : ∃ F, f k = F := ⟨_, rfl⟩
        obtain ⟨F, hFe⟩ := hFe
        rw [hFe] at g0 hF HN
        clear hnext hla hle
        generalize la f k = A at hA HN ⊢
        obtain ⟨s, hs⟩ : ∃ s, F - A = s := ⟨_, rfl⟩
        have hs1 : -65535 ≤ s ∧ s ≤ 65535 := by omega
        have wr1 : IntKind.i64.wrap (F - A) = s := (IntWalk.i64_in _ (by omega)).trans hs
        rw [hs] at HN
        clear hs
        have hfo := fo_le hs1
        by_cases hsn : s < 0
        · have hsn' : ¬ 0 ≤ s := by omega
          have hfe : -2 * s - 1 = (fo s : Int) := by unfold fo; split <;> omega
          have hb9 : s < 0 ∨ 0 ≤ s := by omega
          go_wp2_with fail
          refine (small_any G hfo hll).mono ?_
          rintro e w7 ⟨v7, rfl, G7, KO⟩
          have b7 := KO _ _ _ (by decide) b0
          have g7 := (G7.b.cell (p := ⟨b, off + k, none⟩) hb).trans (HG0.out k hlt)
          rw [hFe] at g7
          clear c0 c1 c2 g0 KO G b0 hfe
          obtain ⟨c0, c1, c2, -⟩ := b7.open3
          go_wp2
          exact ⟨⟨k + 1, l ++ gr 2 (fo s), by omega, by go_num, by rw [HN.out.2], HN.out.1, G7, b7⟩, by simp [intOf]; omega⟩
        · have hsn' : 0 ≤ s := by omega
          have hfe : 2 * s = (fo s : Int) := by unfold fo; split <;> omega
          have hb9 : s < 0 ∨ 0 ≤ s := by omega
          go_wp2_with fail
          refine (small_any G hfo hll).mono ?_
          rintro e w7 ⟨v7, rfl, G7, KO⟩
          have b7 := KO _ _ _ (by decide) b0
          have g7 := (G7.b.cell (p := ⟨b, off + k, none⟩) hb).trans (HG0.out k hlt)
          rw [hFe] at g7
          clear c0 c1 c2 g0 KO G b0 hfe
          obtain ⟨c0, c1, c2, -⟩ := b7.open3
          go_wp2
          exact ⟨⟨k + 1, l ++ gr 2 (fo s), by omega, by go_num, by rw [HN.out.2], HN.out.1, G7, b7⟩, by simp [intOf]; omega⟩
      · have hlt' : ¬ (k : Int) < (len : Int) := by omega
        obtain rfl : k = len := by omega
        go_wp2
        go_ret
        refine ⟨_, rfl, ?_, G.b⟩
        rw [HE.out, ← hle]
        exact G.bytes
end Go.Proofs.Ythfhpnfcodcjlaa
