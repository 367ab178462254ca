/-
  Deflate, by the program and by the specification: walked.
-/
import Derived.Test.YtninblhahjldcaaTb
import Derived.Test.YtninblhahjldcaaTl
namespace Go.Proofs.Ytninblhahjldcaa
open Go.RowKit

/-- What is told of a row from letter i on, the letters told so far being L (n: steps that may be taken). -/
def dfl (s : ByteArray) : Nat → Nat → List UInt8 → Option (List UInt8)
  | 0, _, L => some L
  | n + 1, i, L => if i < s.size then (if sb s i = 83 then none else if i + 1 < s.size ∧ sb s (i + 1) = 83 then dfl s n (i + 2) (L ++ [76]) else dfl s n (i + 1) (L ++ [83])) else some L
theorem dfl_end (s : ByteArray) (n i : Nat) (L : List UInt8) (h : ¬ i < s.size) : dfl s n i L = some L := by
  cases n with
  | zero => rfl
  | succ n => rw [dfl, if_neg h]
theorem dfl_same (s : ByteArray) (n : Nat) : ∀ (m i : Nat) (L : List UInt8), s.size ≤ i + n → s.size ≤ i + m → dfl s n i L = dfl s m i L := by
  induction n with
  | zero => intro m i L h1 h2; rw [dfl_end s 0 i L (by omega), dfl_end s m i L (by omega)]
  | succ n ih =>
    intro m i L h1 h2
    by_cases hi : i < s.size
    · obtain ⟨k, rfl⟩ : ∃ k, m = k + 1 := ⟨m - 1, by omega⟩
      rw [dfl, dfl, ih k (i + 2) _ (by omega) (by omega), ih k (i + 1) _ (by omega) (by omega)]
    · rw [dfl_end s _ i L hi, dfl_end s _ i L hi]
def Dfl (s : ByteArray) (i : Nat) (L : List UInt8) (r : Option (List UInt8)) : Prop := r = dfl s s.size i L
theorem Dfl.step {s : ByteArray} {i : Nat} (L : List UInt8) (h : i < s.size) : dfl s s.size i L = if sb s i = 83 then none else if i + 1 < s.size ∧ sb s (i + 1) = 83 then dfl s s.size (i + 2) (L ++ [76]) else dfl s s.size (i + 1) (L ++ [83]) := by
  rw [dfl_same s s.size (s.size + 1) i L (by omega) (by omega), dfl, if_pos h]
theorem Dfl.fin {s : ByteArray} (i : Nat) (L : List UInt8) (h : ¬ i < s.size) : Dfl s i L (some L) := (dfl_end s _ i L h).symm
theorem Dfl.bad {s : ByteArray} (i : Nat) (L : List UInt8) (h : i < s.size) (h1 : sb s i = 83) : Dfl s i L none := by unfold Dfl; rw [Dfl.step L h, if_pos h1]
theorem Dfl.two {s : ByteArray} (i : Nat) (L : List UInt8) (r : Option (List UInt8)) (h : i < s.size) (h1 : sb s i ≠ 83) (h2 : i + 1 < s.size) (h3 : sb s (i + 1) = 83) (k : Dfl s (i + 2) (L ++ [76]) r) : Dfl s i L r := by
  unfold Dfl at *; rw [Dfl.step L h, if_neg h1, if_pos ⟨h2, h3⟩]; exact k
theorem Dfl.one {s : ByteArray} (i : Nat) (L : List UInt8) (r : Option (List UInt8)) (h : i < s.size) (h1 : sb s i ≠ 83) (h2 : i + 1 < s.size → sb s (i + 1) ≠ 83) (k : Dfl s (i + 1) (L ++ [83]) r) : Dfl s i L r := by
  unfold Dfl at *; rw [Dfl.step L h, if_neg h1, if_neg fun e => h2 e.1 e.2]; exact k
theorem Dfl.det {s : ByteArray} {i : Nat} {L : List UInt8} {r r' : Option (List UInt8)} (h : Dfl s i L r) (g : Dfl s i L r') : r = r' := h.trans g.symm

set_option maxRecDepth 100000 in
set_option maxHeartbeats 1000000 in
theorem specDeflate_yes (s : ByteArray) (w : World) (h : rowOk s 20000 = true) : Calls Try.prog 25 #[.string s] w fun e w' => ∃ r : Option (List UInt8), Dfl s 0 [] r ∧ e = .returned (.tuple #[.string ⟨(r.getD []).toArray⟩, .bool r.isSome]) ∧ Below w.heap.size w w' := by
  obtain ⟨hs, -⟩ := rowOk_iff.1 h
  go_enter Try.func25, Try.ntmps25
  go_wp2_with (go_at_call 32; refine (l9Row_any _ _ _ (by decide)).mono ?_; rintro e w2 ⟨rfl, rfl⟩; rw [h])
  have o0 : ByR (w.alloc (.cells #[] 5)) w.heap.size (.slice (some ⟨w.heap.size, 0, none⟩) 0 0) [] := ⟨(by intro h; cases h), World.ownsRow_made w #[] 0 (Nat.le_refl _) (by decide) rfl⟩
  go_loopw [4, 5] (fun v t wr => ∃ (k : Nat) (L : List UInt8), k ≤ s.size ∧ L.length ≤ k ∧ t = .int .i64 k ∧ ByR wr w.heap.size v L ∧ Below w.heap.size w wr ∧ ∀ r, Dfl s k L r → Dfl s 0 [] r) (fun _ t _ => s.size - (intOf t).toNat)
  case atStart => exact ⟨0, [], Nat.zero_le _, Nat.le_refl _, rfl, o0, below_alloc _ _, fun r h => h⟩
  case round =>
    obtain ⟨k, L, hk, hL, rfl, own, bW, hall⟩ := hrel
    have HA : Hid (∀ r, Dfl s k L r → Dfl s 0 [] r) := hall
    clear hall o0 h
    obtain ⟨i0, hi0, hz0, hz1, hz2⟩ := info_parts infoB
    have lw2 := bW.size
    by_cases hlt : k < s.size
    · have hlt' : (k : Int) < s.size := by omega
      have hix := sb_ix s k k rfl hlt
      by_cases h1 : sb s k = 83
      · have h1' : (sb s k == 83) = true := by simp [h1]
        go_wp2
        exact bodyPost_ret (v := .tuple #[.string ⟨#[]⟩, .bool false]) (by simp [results, Try.results25, go_sem]) rfl ⟨none, HA.out _ (.bad k L hlt h1), rfl, bW⟩
      · have h1' : (sb s k == 83) = false := by simp [h1]
        by_cases h2 : k + 1 < s.size
        · have h2' : (k : Int) + 1 < s.size := by omega
          have hix2 := sb_ix s ((k : Int) + 1) (k + 1) (by omega) h2
          by_cases h3 : sb s (k + 1) = 83
          · have h3' : (sb s (k + 1) == 83) = true := by simp [h3]
            have bA : Below w.heap.size w (wr.alloc (.cells #[.int .u8 76] 5)) := bW.alloc bW.size _
            go_wp2_with (at_builtin; refine wpList_append_lies _ rfl _ _ _ rfl w.heap.size 5 i0 _ 1 1 Try.underlying22 hi0 hz0 hz1 hz2 rfl (by omega) u4 L.length (bCells L) rfl (own.2.alloc _) ⟨wr.heap.size, 0, none⟩ 1 1 [.int .u8 76] rfl rfl (World.news_of_block (cs := #[.int .u8 76]) (t := 5) (fr := (0, 0)) (heap_alloc_new wr _)) (by simp [Value.oneCell']) (by omega) (by unfold maxLen; omega) (by omega) (by simp; omega) (wr.heap.size + 1) (by simp) ?_; intro g gcap w2 hown2 hgrow hat hlt3)
            refine ⟨⟨k + 2, L ++ [76], by omega, by simp; omega, by go_num, ⟨(by intro h; cases h), by simpa [bCells] using hown2⟩, below_grown9 bA hgrow (fun b hb => ownBlock_ge9 own.2 hb) bA.size, fun r hr => HA.out r (.two k L r hlt h1 h2 h3 hr)⟩, by simp [intOf]; omega⟩
          · have h3' : (sb s (k + 1) == 83) = false := by simp [h3]
            have bA : Below w.heap.size w (wr.alloc (.cells #[.int .u8 83] 5)) := bW.alloc bW.size _
            go_wp2_with (at_builtin; refine wpList_append_lies _ rfl _ _ _ rfl w.heap.size 5 i0 _ 1 1 Try.underlying22 hi0 hz0 hz1 hz2 rfl (by omega) u4 L.length (bCells L) rfl (own.2.alloc _) ⟨wr.heap.size, 0, none⟩ 1 1 [.int .u8 83] rfl rfl (World.news_of_block (cs := #[.int .u8 83]) (t := 5) (fr := (0, 0)) (heap_alloc_new wr _)) (by simp [Value.oneCell']) (by omega) (by unfold maxLen; omega) (by omega) (by simp; omega) (wr.heap.size + 1) (by simp) ?_; intro g gcap w2 hown2 hgrow hat hlt3)
            refine ⟨⟨k + 1, L ++ [83], by omega, by simp; omega, by go_num, ⟨(by intro h; cases h), by simpa [bCells] using hown2⟩, below_grown9 bA hgrow (fun b hb => ownBlock_ge9 own.2 hb) bA.size, fun r hr => HA.out r (.one k L r hlt h1 (fun _ => h3) hr)⟩, by simp [intOf]; omega⟩
        · have h2' : ¬ (k : Int) + 1 < s.size := by omega
          have bA : Below w.heap.size w (wr.alloc (.cells #[.int .u8 83] 5)) := bW.alloc bW.size _
          go_wp2_with (at_builtin; refine wpList_append_lies _ rfl _ _ _ rfl w.heap.size 5 i0 _ 1 1 Try.underlying22 hi0 hz0 hz1 hz2 rfl (by omega) u4 L.length (bCells L) rfl (own.2.alloc _) ⟨wr.heap.size, 0, none⟩ 1 1 [.int .u8 83] rfl rfl (World.news_of_block (cs := #[.int .u8 83]) (t := 5) (fr := (0, 0)) (heap_alloc_new wr _)) (by simp [Value.oneCell']) (by omega) (by unfold maxLen; omega) (by omega) (by simp; omega) (wr.heap.size + 1) (by simp) ?_; intro g gcap w2 hown2 hgrow hat hlt3)
          refine ⟨⟨k + 1, L ++ [83], by omega, by simp; omega, by go_num, ⟨(by intro h; cases h), by simpa [bCells] using hown2⟩, below_grown9 bA hgrow (fun b hb => ownBlock_ge9 own.2 hb) bA.size, fun r hr => HA.out r (.one k L r hlt h1 (fun h => absurd h h2) hr)⟩, by simp [intOf]; omega⟩
    · have hlt' : ¬ (k : Int) < s.size := by omega
      have htx := own.text
      go_wp2
      exact bodyPost_ret (v := .tuple #[.string ⟨L.toArray⟩, .bool true]) (by simp [results, Try.results25, go_sem]) rfl ⟨some L, HA.out _ (.fin k L hlt), rfl, bW⟩
set_option maxHeartbeats 1000000 in
theorem specDeflate_no (s : ByteArray) (w : World) (h : rowOk s 20000 = false) : Calls Try.prog 25 #[.string s] w fun e w' => e = .returned (.tuple #[.string ⟨#[]⟩, .bool false]) ∧ Below w.heap.size w w' := by
  go_enter Try.func25, Try.ntmps25
  go_wp2_with (go_at_call 32; refine (l9Row_any _ _ _ (by decide)).mono ?_; rintro e w2 ⟨rfl, rfl⟩; rw [h])
  exact bodyPost_ret (v := .tuple #[.string ⟨#[]⟩, .bool false]) (by simp [results, Try.results25, go_sem]) rfl ⟨rfl, Below.refl _ _⟩
set_option maxRecDepth 100000 in
set_option maxHeartbeats 1000000 in
theorem implDeflate_yes (s : ByteArray) (w : World) (h : rowOk s 20000 = true) : Calls Try.prog 13 #[.string s] w fun e w' => ∃ r : Option (List UInt8), Dfl s 0 [] r ∧ e = .returned (.tuple #[.string ⟨(r.getD []).toArray⟩, .bool r.isSome]) ∧ Below w.heap.size w w' := by
  obtain ⟨hs, -⟩ := rowOk_iff.1 h
  go_enter Try.func13, Try.ntmps13
  go_wp2_with (go_at_call 34; refine (isRow_any _ _ _ (by decide)).mono ?_; rintro e w2 ⟨rfl, rfl⟩; rw [h])
  have o0 : ByR (w.alloc (.cells #[] 5)) w.heap.size (.slice (some ⟨w.heap.size, 0, none⟩) 0 0) [] := ⟨(by intro h; cases h), World.ownsRow_made w #[] 0 (Nat.le_refl _) (by decide) rfl⟩
  go_loopw [4, 5] (fun v t wr => ∃ (k : Nat) (L : List UInt8), k ≤ s.size ∧ L.length ≤ k ∧ t = .int .i64 k ∧ ByR wr w.heap.size v L ∧ Below w.heap.size w wr ∧ ∀ r, Dfl s k L r → Dfl s 0 [] r) (fun _ t _ => s.size - (intOf t).toNat)
  case atStart => exact ⟨0, [], Nat.zero_le _, Nat.le_refl _, rfl, o0, below_alloc _ _, fun r h => h⟩
  case round =>
    obtain ⟨k, L, hk, hL, rfl, own, bW, hall⟩ := hrel
    have HA : Hid (∀ r, Dfl s k L r → Dfl s 0 [] r) := hall
    clear hall o0 h
    obtain ⟨i0, hi0, hz0, hz1, hz2⟩ := info_parts infoB
    have lw2 := bW.size
    by_cases hlt : k < s.size
    · have hlt' : (k : Int) < s.size := by omega
      have hix := sb_ix s k k rfl hlt
      by_cases h1 : sb s k = 83
      · have h1' : (sb s k == 83) = true := by simp [h1]
        go_wp2
        exact bodyPost_ret (v := .tuple #[.string ⟨#[]⟩, .bool false]) (by simp [results, Try.results13, go_sem]) rfl ⟨none, HA.out _ (.bad k L hlt h1), rfl, bW⟩
      · have h1' : (sb s k == 83) = false := by simp [h1]
        by_cases h2 : k + 1 < s.size
        · have h2' : (k : Int) + 1 < s.size := by omega
          have hix2 := sb_ix s ((k : Int) + 1) (k + 1) (by omega) h2
          by_cases h3 : sb s (k + 1) = 83
          · have h3' : (sb s (k + 1) == 83) = true := by simp [h3]
            have bA : Below w.heap.size w (wr.alloc (.cells #[.int .u8 76] 5)) := bW.alloc bW.size _
            go_wp2_with (at_builtin; refine wpList_append_lies _ rfl _ _ _ rfl w.heap.size 5 i0 _ 1 1 Try.underlying22 hi0 hz0 hz1 hz2 rfl (by omega) u4 L.length (bCells L) rfl (own.2.alloc _) ⟨wr.heap.size, 0, none⟩ 1 1 [.int .u8 76] rfl rfl (World.news_of_block (cs := #[.int .u8 76]) (t := 5) (fr := (0, 0)) (heap_alloc_new wr _)) (by simp [Value.oneCell']) (by omega) (by unfold maxLen; omega) (by omega) (by simp; omega) (wr.heap.size + 1) (by simp) ?_; intro g gcap w2 hown2 hgrow hat hlt3)
            refine ⟨⟨k + 2, L ++ [76], by omega, by simp; omega, by go_num, ⟨(by intro h; cases h), by simpa [bCells] using hown2⟩, below_grown9 bA hgrow (fun b hb => ownBlock_ge9 own.2 hb) bA.size, fun r hr => HA.out r (.two k L r hlt h1 h2 h3 hr)⟩, by simp [intOf]; omega⟩
          · have h3' : (sb s (k + 1) == 83) = false := by simp [h3]
            have bA : Below w.heap.size w (wr.alloc (.cells #[.int .u8 83] 5)) := bW.alloc bW.size _
            go_wp2_with (at_builtin; refine wpList_append_lies _ rfl _ _ _ rfl w.heap.size 5 i0 _ 1 1 Try.underlying22 hi0 hz0 hz1 hz2 rfl (by omega) u4 L.length (bCells L) rfl (own.2.alloc _) ⟨wr.heap.size, 0, none⟩ 1 1 [.int .u8 83] rfl rfl (World.news_of_block (cs := #[.int .u8 83]) (t := 5) (fr := (0, 0)) (heap_alloc_new wr _)) (by simp [Value.oneCell']) (by omega) (by unfold maxLen; omega) (by omega) (by simp; omega) (wr.heap.size + 1) (by simp) ?_; intro g gcap w2 hown2 hgrow hat hlt3)
            refine ⟨⟨k + 1, L ++ [83], by omega, by simp; omega, by go_num, ⟨(by intro h; cases h), by simpa [bCells] using hown2⟩, below_grown9 bA hgrow (fun b hb => ownBlock_ge9 own.2 hb) bA.size, fun r hr => HA.out r (.one k L r hlt h1 (fun _ => h3) hr)⟩, by simp [intOf]; omega⟩
        · have h2' : ¬ (k : Int) + 1 < s.size := by omega
          have bA : Below w.heap.size w (wr.alloc (.cells #[.int .u8 83] 5)) := bW.alloc bW.size _
          go_wp2_with (at_builtin; refine wpList_append_lies _ rfl _ _ _ rfl w.heap.size 5 i0 _ 1 1 Try.underlying22 hi0 hz0 hz1 hz2 rfl (by omega) u4 L.length (bCells L) rfl (own.2.alloc _) ⟨wr.heap.size, 0, none⟩ 1 1 [.int .u8 83] rfl rfl (World.news_of_block (cs := #[.int .u8 83]) (t := 5) (fr := (0, 0)) (heap_alloc_new wr _)) (by simp [Value.oneCell']) (by omega) (by unfold maxLen; omega) (by omega) (by simp; omega) (wr.heap.size + 1) (by simp) ?_; intro g gcap w2 hown2 hgrow hat hlt3)
          refine ⟨⟨k + 1, L ++ [83], by omega, by simp; omega, by go_num, ⟨(by intro h; cases h), by simpa [bCells] using hown2⟩, below_grown9 bA hgrow (fun b hb => ownBlock_ge9 own.2 hb) bA.size, fun r hr => HA.out r (.one k L r hlt h1 (fun h => absurd h h2) hr)⟩, by simp [intOf]; omega⟩
    · have hlt' : ¬ (k : Int) < s.size := by omega
      have htx := own.text
      go_wp2
      exact bodyPost_ret (v := .tuple #[.string ⟨L.toArray⟩, .bool true]) (by simp [results, Try.results13, go_sem]) rfl ⟨some L, HA.out _ (.fin k L hlt), rfl, bW⟩
set_option maxHeartbeats 1000000 in
theorem implDeflate_no (s : ByteArray) (w : World) (h : rowOk s 20000 = false) : Calls Try.prog 13 #[.string s] w fun e w' => e = .returned (.tuple #[.string ⟨#[]⟩, .bool false]) ∧ Below w.heap.size w w' := by
  go_enter Try.func13, Try.ntmps13
  go_wp2_with (go_at_call 34; refine (isRow_any _ _ _ (by decide)).mono ?_; rintro e w2 ⟨rfl, rfl⟩; rw [h])
  exact bodyPost_ret (v := .tuple #[.string ⟨#[]⟩, .bool false]) (by simp [results, Try.results13, go_sem]) rfl ⟨rfl, Below.refl _ _⟩
end Go.Proofs.Ytninblhahjldcaa
