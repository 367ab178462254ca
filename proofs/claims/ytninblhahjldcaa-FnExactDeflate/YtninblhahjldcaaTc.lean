/-
  Deflate, by the program and by the specification: walked.
-/
import Derived.Test.YtninblhahjldcaaTb
import Derived.Deep.AppendLies
import Derived.Laws.IdiomStrings
namespace Go.Proofs.Ytninblhahjldcaa
open Go.RowKit

/-- What is told of a row from letter i on, the letters told so far being L. -/
inductive Dfl (s : ByteArray) : Nat → List UInt8 → Option (List UInt8) → Prop
  | fin (i : Nat) (L : List UInt8) : ¬ i < s.size → Dfl s i L (some L)
  | bad (i : Nat) (L : List UInt8) : i < s.size → sb s i = 83 → Dfl s i L none
  | two (i : Nat) (L : List UInt8) (r : Option (List UInt8)) : i < s.size → sb s i ≠ 83 → i + 1 < s.size → sb s (i + 1) = 83 → Dfl s (i + 2) (L ++ [76]) r → Dfl s i L r
  | one (i : Nat) (L : List UInt8) (r : Option (List UInt8)) : i < s.size → sb s i ≠ 83 → (i + 1 < s.size → sb s (i + 1) ≠ 83) → Dfl s (i + 1) (L ++ [83]) r → Dfl s i L r
theorem Dfl.det {s : ByteArray} {i : Nat} {L : List UInt8} {r r' : Option (List UInt8)} (h : Dfl s i L r) (g : Dfl s i L r') : r = r' := by
  induction h with
  | fin i L h0 =>
    cases g with
    | fin => rfl
    | bad _ _ h => exact absurd h h0
    | two _ _ _ h => exact absurd h h0
    | one _ _ _ h => exact absurd h h0
  | bad i L h0 h1 =>
    cases g with
    | fin _ _ h => exact absurd h0 h
    | bad => rfl
    | two _ _ _ _ h => exact absurd h1 h
    | one _ _ _ _ h => exact absurd h1 h
  | two i L r h0 h1 h2 h3 _ ih =>
    cases g with
    | fin _ _ h => exact absurd h0 h
    | bad _ _ _ h => exact absurd h h1
    | two _ _ _ _ _ _ _ k => exact ih k
    | one _ _ _ _ _ h => exact absurd h3 (h h2)
  | one i L r h0 h1 h2 _ ih =>
    cases g with
    | fin _ _ h => exact absurd h0 h
    | bad _ _ _ h => exact absurd h h1
    | two _ _ _ _ _ h h' => exact absurd h' (h2 h)
    | one _ _ _ _ _ _ k => exact ih k
/-- The cells of letters. -/
def bCells (L : List UInt8) : List Value := L.map fun b => .int .u8 (b.toNat : Int)
theorem bCells_add (L : List UInt8) (b : UInt8) : bCells L ++ [.int .u8 (b.toNat : Int)] = bCells (L ++ [b]) := by simp [bCells]
/-- A list of letters of one's own. -/
def ByR (w : World) (base : Nat) (v : Value) (L : List UInt8) : Prop := v ≠ .slice none 0 0 ∧ w.ownsRow base 5 1 v L.length (bCells L)
theorem ByR.text {w : World} {base : Nat} {v : Value} {L : List UInt8} (h : ByR w base v L) : (convert 22 9 v).run Try.prog w = .ok (.string ⟨L.toArray⟩) w := by
  obtain ⟨h0, hl, h1⟩ := h
  rcases h1 with ⟨h1, -⟩ | ⟨g, c, cur, rfl, hb, hh, hc1, hc2, hsz, ht⟩
  · exact absurd h1 h0
  · refine run_convert_bytes_back w 22 9 5 ⟨g, 0, none⟩ c L Try.underlying22 Try.underlying5 Try.underlying9 fun j hj => ?_
    have a1 : (bCells L)[j]? = some (.int .u8 (L[j].toNat : Int)) := by simp [bCells, hj]
    rw [← ht] at a1
    rw [List.getElem?_take_of_lt (by omega)] at a1
    simp only [World.cell?, Addr.add_lit, hh]
    simpa using a1
theorem below_grown9 {N : Nat} {w w1 w2 : World} {row : Option Nat} (b : Below N w w1) (g : w1.grownBy w2 row) (hr : ∀ j, row = some j → N ≤ j) (hN : N ≤ w1.heap.size) : Below N w w2 :=
  b.trans ⟨g.os, g.tape, g.output, g.size, fun k hk => g.block k (by omega) (fun e => by have := hr k e.symm; omega)⟩
theorem ownBlock_ge9 {w : World} {base : Nat} {e : TypeId} {size : Nat} {v : Value} {n : Nat} {xs : List Value} (h : w.ownsRow base e size v n xs) {j : Nat} (hj : v.ownBlock = some j) : base ≤ j := by
  rcases h.2 with ⟨rfl, _⟩ | ⟨g, cap, cur, rfl, hb, _⟩
  · cases hj
  · cases hj; exact hb

theorem infoB : (Try.prog.info? 5).map (fun i => (i.zero, i.size, i.bytes)) = some (some (.int .u8 0), 1, 1) := by kernel_rfl
set_option maxRecDepth 100000 in
set_option maxRecDepth 100000 in
set_option maxHeartbeats 1000000 in
theorem specDeflate_yes (s : ByteArray) (w : World) (h : rowOk s 20000 = true) : Calls Try.prog 25 #[.string s] w fun e w' => ∃ r : Option (List UInt8), Dfl s 0 [] r ∧ e = .returned (.tuple #[.string ⟨(r.getD []).toArray⟩, .bool r.isSome]) ∧ Below w.heap.size w w' := by
  obtain ⟨hs, -⟩ := rowOk_iff.1 h
  go_enter Try.func25, Try.ntmps25
  go_wp2_with (go_at_call 32; refine (l9Row_any _ _ _ (by decide)).mono ?_; rintro e w2 ⟨rfl, rfl⟩; rw [h])
  have o0 : ByR (w.alloc (.cells #[] 5)) w.heap.size (.slice (some ⟨w.heap.size, 0, none⟩) 0 0) [] := ⟨(by intro h; cases h), World.ownsRow_made w #[] 0 (Nat.le_refl _) (by decide) rfl⟩
  go_loopw [4, 5] (fun v t wr => ∃ (k : Nat) (L : List UInt8), k ≤ s.size ∧ L.length ≤ k ∧ t = .int .i64 k ∧ ByR wr w.heap.size v L ∧ Below w.heap.size w wr ∧ ∀ r, Dfl s k L r → Dfl s 0 [] r) (fun _ t _ => s.size - (intOf t).toNat)
  case atStart => exact ⟨0, [], Nat.zero_le _, Nat.le_refl _, rfl, o0, below_alloc _ _, fun r h => h⟩
  case round =>
    obtain ⟨k, L, hk, hL, rfl, own, bW, hall⟩ := hrel
    have HA : Hid (∀ r, Dfl s k L r → Dfl s 0 [] r) := hall
    clear hall o0 h
    obtain ⟨i0, hi0, hz0, hz1, hz2⟩ := info_parts infoB
    have lw2 := bW.size
    by_cases hlt : k < s.size
    · have hlt' : (k : Int) < s.size := by omega
      have hix := sb_ix s k k rfl hlt
      by_cases h1 : sb s k = 83
      · have h1' : (sb s k == 83) = true := by simp [h1]
        go_wp2
        exact bodyPost_ret (v := .tuple #[.string ⟨#[]⟩, .bool false]) (by simp [results, Try.results25, go_sem]) rfl ⟨none, HA.out _ (.bad k L hlt h1), rfl, bW⟩
      · have h1' : (sb s k == 83) = false := by simp [h1]
        by_cases h2 : k + 1 < s.size
        · have h2' : (k : Int) + 1 < s.size := by omega
          have hix2 := sb_ix s ((k : Int) + 1) (k + 1) (by omega) h2
          by_cases h3 : sb s (k + 1) = 83
          · have h3' : (sb s (k + 1) == 83) = true := by simp [h3]
            have bA : Below w.heap.size w (wr.alloc (.cells #[.int .u8 76] 5)) := bW.alloc bW.size _
            go_wp2_with (at_builtin; refine wpList_append_lies _ rfl _ _ _ rfl w.heap.size 5 i0 _ 1 1 Try.underlying22 hi0 hz0 hz1 hz2 rfl (by omega) u4 L.length (bCells L) rfl (own.2.alloc _) ⟨wr.heap.size, 0, none⟩ 1 1 [.int .u8 76] rfl rfl (World.news_of_block (cs := #[.int .u8 76]) (t := 5) (fr := (0, 0)) (heap_alloc_new wr _)) (by simp [Value.oneCell']) (by omega) (by unfold maxLen; omega) (by omega) (by simp; omega) (wr.heap.size + 1) (by simp) ?_; intro g gcap w2 hown2 hgrow hat hlt3)
            refine ⟨⟨k + 2, L ++ [76], by omega, by simp; omega, by go_num, ⟨(by intro h; cases h), by simpa [bCells] using hown2⟩, below_grown9 bA hgrow (fun b hb => ownBlock_ge9 own.2 hb) bA.size, fun r hr => HA.out r (.two k L r hlt h1 h2 h3 hr)⟩, by simp [intOf]; omega⟩
          · have h3' : (sb s (k + 1) == 83) = false := by simp [h3]
            have bA : Below w.heap.size w (wr.alloc (.cells #[.int .u8 83] 5)) := bW.alloc bW.size _
            go_wp2_with (at_builtin; refine wpList_append_lies _ rfl _ _ _ rfl w.heap.size 5 i0 _ 1 1 Try.underlying22 hi0 hz0 hz1 hz2 rfl (by omega) u4 L.length (bCells L) rfl (own.2.alloc _) ⟨wr.heap.size, 0, none⟩ 1 1 [.int .u8 83] rfl rfl (World.news_of_block (cs := #[.int .u8 83]) (t := 5) (fr := (0, 0)) (heap_alloc_new wr _)) (by simp [Value.oneCell']) (by omega) (by unfold maxLen; omega) (by omega) (by simp; omega) (wr.heap.size + 1) (by simp) ?_; intro g gcap w2 hown2 hgrow hat hlt3)
            refine ⟨⟨k + 1, L ++ [83], by omega, by simp; omega, by go_num, ⟨(by intro h; cases h), by simpa [bCells] using hown2⟩, below_grown9 bA hgrow (fun b hb => ownBlock_ge9 own.2 hb) bA.size, fun r hr => HA.out r (.one k L r hlt h1 (fun _ => h3) hr)⟩, by simp [intOf]; omega⟩
        · have h2' : ¬ (k : Int) + 1 < s.size := by omega
          have bA : Below w.heap.size w (wr.alloc (.cells #[.int .u8 83] 5)) := bW.alloc bW.size _
          go_wp2_with (at_builtin; refine wpList_append_lies _ rfl _ _ _ rfl w.heap.size 5 i0 _ 1 1 Try.underlying22 hi0 hz0 hz1 hz2 rfl (by omega) u4 L.length (bCells L) rfl (own.2.alloc _) ⟨wr.heap.size, 0, none⟩ 1 1 [.int .u8 83] rfl rfl (World.news_of_block (cs := #[.int .u8 83]) (t := 5) (fr := (0, 0)) (heap_alloc_new wr _)) (by simp [Value.oneCell']) (by omega) (by unfold maxLen; omega) (by omega) (by simp; omega) (wr.heap.size + 1) (by simp) ?_; intro g gcap w2 hown2 hgrow hat hlt3)
          refine ⟨⟨k + 1, L ++ [83], by omega, by simp; omega, by go_num, ⟨(by intro h; cases h), by simpa [bCells] using hown2⟩, below_grown9 bA hgrow (fun b hb => ownBlock_ge9 own.2 hb) bA.size, fun r hr => HA.out r (.one k L r hlt h1 (fun h => absurd h h2) hr)⟩, by simp [intOf]; omega⟩
    · have hlt' : ¬ (k : Int) < s.size := by omega
      have htx := own.text
      go_wp2
      exact bodyPost_ret (v := .tuple #[.string ⟨L.toArray⟩, .bool true]) (by simp [results, Try.results25, go_sem]) rfl ⟨some L, HA.out _ (.fin k L hlt), rfl, bW⟩
set_option maxHeartbeats 1000000 in
theorem specDeflate_no (s : ByteArray) (w : World) (h : rowOk s 20000 = false) : Calls Try.prog 25 #[.string s] w fun e w' => e = .returned (.tuple #[.string ⟨#[]⟩, .bool false]) ∧ Below w.heap.size w w' := by
  go_enter Try.func25, Try.ntmps25
  go_wp2_with (go_at_call 32; refine (l9Row_any _ _ _ (by decide)).mono ?_; rintro e w2 ⟨rfl, rfl⟩; rw [h])
  exact bodyPost_ret (v := .tuple #[.string ⟨#[]⟩, .bool false]) (by simp [results, Try.results25, go_sem]) rfl ⟨rfl, Below.refl _ _⟩
set_option maxRecDepth 100000 in
set_option maxHeartbeats 1000000 in
theorem implDeflate_yes (s : ByteArray) (w : World) (h : rowOk s 20000 = true) : Calls Try.prog 13 #[.string s] w fun e w' => ∃ r : Option (List UInt8), Dfl s 0 [] r ∧ e = .returned (.tuple #[.string ⟨(r.getD []).toArray⟩, .bool r.isSome]) ∧ Below w.heap.size w w' := by
  obtain ⟨hs, -⟩ := rowOk_iff.1 h
  go_enter Try.func13, Try.ntmps13
  go_wp2_with (go_at_call 34; refine (isRow_any _ _ _ (by decide)).mono ?_; rintro e w2 ⟨rfl, rfl⟩; rw [h])
  have o0 : ByR (w.alloc (.cells #[] 5)) w.heap.size (.slice (some ⟨w.heap.size, 0, none⟩) 0 0) [] := ⟨(by intro h; cases h), World.ownsRow_made w #[] 0 (Nat.le_refl _) (by decide) rfl⟩
  go_loopw [4, 5] (fun v t wr => ∃ (k : Nat) (L : List UInt8), k ≤ s.size ∧ L.length ≤ k ∧ t = .int .i64 k ∧ ByR wr w.heap.size v L ∧ Below w.heap.size w wr ∧ ∀ r, Dfl s k L r → Dfl s 0 [] r) (fun _ t _ => s.size - (intOf t).toNat)
  case atStart => exact ⟨0, [], Nat.zero_le _, Nat.le_refl _, rfl, o0, below_alloc _ _, fun r h => h⟩
  case round =>
    obtain ⟨k, L, hk, hL, rfl, own, bW, hall⟩ := hrel
    have HA : Hid (∀ r, Dfl s k L r → Dfl s 0 [] r) := hall
    clear hall o0 h
    obtain ⟨i0, hi0, hz0, hz1, hz2⟩ := info_parts infoB
    have lw2 := bW.size
    by_cases hlt : k < s.size
    · have hlt' : (k : Int) < s.size := by omega
      have hix := sb_ix s k k rfl hlt
      by_cases h1 : sb s k = 83
      · have h1' : (sb s k == 83) = true := by simp [h1]
        go_wp2
        exact bodyPost_ret (v := .tuple #[.string ⟨#[]⟩, .bool false]) (by simp [results, Try.results13, go_sem]) rfl ⟨none, HA.out _ (.bad k L hlt h1), rfl, bW⟩
      · have h1' : (sb s k == 83) = false := by simp [h1]
        by_cases h2 : k + 1 < s.size
        · have h2' : (k : Int) + 1 < s.size := by omega
          have hix2 := sb_ix s ((k : Int) + 1) (k + 1) (by omega) h2
          by_cases h3 : sb s (k + 1) = 83
          · have h3' : (sb s (k + 1) == 83) = true := by simp [h3]
            have bA : Below w.heap.size w (wr.alloc (.cells #[.int .u8 76] 5)) := bW.alloc bW.size _
            go_wp2_with (at_builtin; refine wpList_append_lies _ rfl _ _ _ rfl w.heap.size 5 i0 _ 1 1 Try.underlying22 hi0 hz0 hz1 hz2 rfl (by omega) u4 L.length (bCells L) rfl (own.2.alloc _) ⟨wr.heap.size, 0, none⟩ 1 1 [.int .u8 76] rfl rfl (World.news_of_block (cs := #[.int .u8 76]) (t := 5) (fr := (0, 0)) (heap_alloc_new wr _)) (by simp [Value.oneCell']) (by omega) (by unfold maxLen; omega) (by omega) (by simp; omega) (wr.heap.size + 1) (by simp) ?_; intro g gcap w2 hown2 hgrow hat hlt3)
            refine ⟨⟨k + 2, L ++ [76], by omega, by simp; omega, by go_num, ⟨(by intro h; cases h), by simpa [bCells] using hown2⟩, below_grown9 bA hgrow (fun b hb => ownBlock_ge9 own.2 hb) bA.size, fun r hr => HA.out r (.two k L r hlt h1 h2 h3 hr)⟩, by simp [intOf]; omega⟩
          · have h3' : (sb s (k + 1) == 83) = false := by simp [h3]
            have bA : Below w.heap.size w (wr.alloc (.cells #[.int .u8 83] 5)) := bW.alloc bW.size _
            go_wp2_with (at_builtin; refine wpList_append_lies _ rfl _ _ _ rfl w.heap.size 5 i0 _ 1 1 Try.underlying22 hi0 hz0 hz1 hz2 rfl (by omega) u4 L.length (bCells L) rfl (own.2.alloc _) ⟨wr.heap.size, 0, none⟩ 1 1 [.int .u8 83] rfl rfl (World.news_of_block (cs := #[.int .u8 83]) (t := 5) (fr := (0, 0)) (heap_alloc_new wr _)) (by simp [Value.oneCell']) (by omega) (by unfold maxLen; omega) (by omega) (by simp; omega) (wr.heap.size + 1) (by simp) ?_; intro g gcap w2 hown2 hgrow hat hlt3)
            refine ⟨⟨k + 1, L ++ [83], by omega, by simp; omega, by go_num, ⟨(by intro h; cases h), by simpa [bCells] using hown2⟩, below_grown9 bA hgrow (fun b hb => ownBlock_ge9 own.2 hb) bA.size, fun r hr => HA.out r (.one k L r hlt h1 (fun _ => h3) hr)⟩, by simp [intOf]; omega⟩
        · have h2' : ¬ (k : Int) + 1 < s.size := by omega
          have bA : Below w.heap.size w (wr.alloc (.cells #[.int .u8 83] 5)) := bW.alloc bW.size _
          go_wp2_with (at_builtin; refine wpList_append_lies _ rfl _ _ _ rfl w.heap.size 5 i0 _ 1 1 Try.underlying22 hi0 hz0 hz1 hz2 rfl (by omega) u4 L.length (bCells L) rfl (own.2.alloc _) ⟨wr.heap.size, 0, none⟩ 1 1 [.int .u8 83] rfl rfl (World.news_of_block (cs := #[.int .u8 83]) (t := 5) (fr := (0, 0)) (heap_alloc_new wr _)) (by simp [Value.oneCell']) (by omega) (by unfold maxLen; omega) (by omega) (by simp; omega) (wr.heap.size + 1) (by simp) ?_; intro g gcap w2 hown2 hgrow hat hlt3)
          refine ⟨⟨k + 1, L ++ [83], by omega, by simp; omega, by go_num, ⟨(by intro h; cases h), by simpa [bCells] using hown2⟩, below_grown9 bA hgrow (fun b hb => ownBlock_ge9 own.2 hb) bA.size, fun r hr => HA.out r (.one k L r hlt h1 (fun h => absurd h h2) hr)⟩, by simp [intOf]; omega⟩
    · have hlt' : ¬ (k : Int) < s.size := by omega
      have htx := own.text
      go_wp2
      exact bodyPost_ret (v := .tuple #[.string ⟨L.toArray⟩, .bool true]) (by simp [results, Try.results13, go_sem]) rfl ⟨some L, HA.out _ (.fin k L hlt), rfl, bW⟩
set_option maxHeartbeats 1000000 in
theorem implDeflate_no (s : ByteArray) (w : World) (h : rowOk s 20000 = false) : Calls Try.prog 13 #[.string s] w fun e w' => e = .returned (.tuple #[.string ⟨#[]⟩, .bool false]) ∧ Below w.heap.size w w' := by
  go_enter Try.func13, Try.ntmps13
  go_wp2_with (go_at_call 34; refine (isRow_any _ _ _ (by decide)).mono ?_; rintro e w2 ⟨rfl, rfl⟩; rw [h])
  exact bodyPost_ret (v := .tuple #[.string ⟨#[]⟩, .bool false]) (by simp [results, Try.results13, go_sem]) rfl ⟨rfl, Below.refl _ _⟩
end Go.Proofs.Ytninblhahjldcaa
