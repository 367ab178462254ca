/-
  Matrices drawn, walked.
-/
import Derived.Test.YtlgkohiempcbhaaWalkQ
import Derived.Deep.CutRange
namespace Go.Proofs.Ytlgkohiempcbhaa
open Go.RowKit

/-- The cells of the first n numbers. -/
def iCells (f : Nat → Int) : Nat → List Value
  | 0 => []
  | n + 1 => iCells f n ++ [.int .i64 (f n)]
theorem iCells_len (f : Nat → Int) (n : Nat) : (iCells f n).length = n := by
  induction n with
  | zero => rfl
  | succ n ih => simp [iCells, ih]
theorem iCells_at (f : Nat → Int) {n i : Nat} (h : i < n) : (iCells f n)[i]? = some (.int .i64 (f i)) := by
  induction n with
  | zero => omega
  | succ n ih =>
    unfold iCells
    have hl := iCells_len f n
    by_cases e : i = n
    · subst e
      rw [List.getElem?_append_right (by omega), hl]; simp
    · rw [List.getElem?_append_left (by omega)]; exact ih (by omega)
theorem iCells_congr {f g : Nat → Int} {n : Nat} (h : ∀ i, i < n → f i = g i) : iCells f n = iCells g n := by
  induction n with
  | zero => rfl
  | succ n ih => unfold iCells; rw [ih (fun i hi => h i (by omega)), h n (by omega)]
theorem iCells_snoc (f : Nat → Int) (k : Nat) (x : Int) : iCells f k ++ [.int .i64 x] = iCells (fun i => if i = k then x else f i) (k + 1) := by
  show _ = iCells (fun i => if i = k then x else f i) k ++ _
  rw [← iCells_congr (f := f) (g := fun i => if i = k then x else f i) (fun i hi => by simp [show i ≠ k by omega])]
  simp
theorem made_of {w : World} {base n : Nat} {v : Value} {f : Nat → Int} (h : w.ownsRow base 2 1 v n (iCells f n)) (hv : v ≠ .slice none 0 0) : ∃ g c, v = .slice (some ⟨g, 0, none⟩) n c ∧ base ≤ g ∧ n ≤ c ∧ Made w g c n f := by
  rcases h.2 with ⟨h1, _⟩ | ⟨g, c, cur, rfl, hb, hh, hc1, hc2, hsz, ht⟩
  · exact absurd h1 hv
  · have hn : n ≤ c := hc1
    refine ⟨g, c, rfl, hb, hn, cur, hh, by simpa using hsz, fun i hi => ?_⟩
    have a1 := iCells_at f hi
    rw [← ht] at a1
    rw [List.getElem?_take_of_lt (by omega)] at a1
    simpa using a1
theorem ownBlock_ge {w : World} {base : Nat} {e : TypeId} {size : Nat} {v : Value} {n : Nat} {xs : List Value} (h : w.ownsRow base e size v n xs) {j : Nat} (hj : v.ownBlock = some j) : base ≤ j := by
  rcases h.2 with ⟨rfl, _⟩ | ⟨g, cap, cur, rfl, hb, _⟩
  · cases hj
  · cases hj; exact hb
theorem ne_nil (a : Addr) (n c : Nat) : Value.slice (some a) n c ≠ .slice none 0 0 := by intro h; cases h
theorem Made.put {w : World} {g n k : Nat} {f : Nat → Int} (h : Made w g n k f) {i : Nat} (hi : i < k) (hk : k ≤ n) (x : Int) : Made (w.setCell ⟨g, i, none⟩ (.int .i64 x)) g n k (fun j => if j = i then x else f j) := by
  obtain ⟨cur, h1, h2, h3⟩ := h
  refine ⟨_, h1.set i _, by simpa using h2, fun j hj => ?_⟩
  have l0 : i < cur.size := by omega
  by_cases e : j = i
  · subst e
    simp [l0]
  · rw [Array.getElem?_setIfInBounds, if_neg (by omega), h3 j hj]
    simp [e]
theorem Made.kept {w w' : World} {p g n k : Nat} {f : Nat → Int} (h : Made w g n k f) (hk : Kept p w w') (hne : g ≠ p) : Made w' g n k f := by
  obtain ⟨cur, h1, h2⟩ := h
  exact ⟨cur, (hk.block g h1.lt hne).trans h1, h2⟩
theorem Dr.set {w0 w : World} {p g i : Nat} {a : Option Addr} {len cap : Nat} (h : Dr w0 p a len cap w) (hg : w0.heap.size ≤ g) (hp : p < w0.heap.size) (v : Value) : Dr w0 p a len cap (w.setCell ⟨g, i, none⟩ v) := by
  have hs := h.1.size
  have hb : Below w0.heap.size w (w.setCell ⟨g, i, none⟩ v) := (Below.refl _ _).setCell (p := ⟨g, i, none⟩) hg v
  have hk : Kept p w0 (w.setCell ⟨g, i, none⟩ v) := ⟨hb.os.trans h.1.os, hb.tape.trans h.1.tape, hb.output.trans h.1.output, Nat.le_trans hs (by simp [World.setCell]), fun k hk hkp => (hb.block k hk).trans (h.1.block k hk hkp)⟩
  refine ⟨hk, ?_⟩
  obtain ⟨j, x, hj, hh, hr⟩ := h.2
  refine ⟨j, x, hj, (hb.block p hp).trans hh, hr.1, hr.2.imp id ?_⟩
  rintro ⟨b, off, e, hbp, hc⟩
  refine ⟨b, off, e, hbp, fun j hj => ?_⟩
  obtain ⟨n, n0, n1, hn⟩ := hc j hj
  exact ⟨n, n0, n1, (hb.cell (p := ⟨b, off + j, none⟩) (Nat.lt_trans hbp hp)).trans hn⟩
set_option maxRecDepth 100000 in
set_option maxHeartbeats 3200000 in
theorem draw9_dr {w : World} {p : Nat} {a : Option Addr} {len cap : Nat} (hc : Cur w p a len cap) :
    Calls Try.prog 63 #[.pointer (some ⟨p, 0, none⟩)] w fun e w' => ∃ g c f, e = .returned (.slice (some ⟨g, 0, none⟩) 9 c) ∧ w.heap.size ≤ g ∧ 9 ≤ c ∧ Made w' g c 9 f ∧ Dr w p a len cap w' := by
  have hlt := hc.lt
  have hd := Dr.start hc
  have hbs : ∀ w, (Instr.buildSlice 24 0 #[]).run Try.prog w = .ok (.slice (some ⟨w.heap.size, 0, none⟩) 0 0) (w.alloc (.cells #[] 2)) := fun _ => by kernel_rfl
  clear hc
  go_enter Try.func63, Try.ntmps63
  go_wp2
  have o0 : (w.alloc (.cells #[] 2)).ownsRow w.heap.size 2 1 (.slice (some ⟨w.heap.size, 0, none⟩) 0 0) 0 (iCells (fun _ => 0) 0) :=
    ⟨rfl, .inr ⟨w.heap.size, 0, #[], rfl, Nat.le_refl _, heap_alloc_new _ _, Nat.le_refl _, Nat.zero_le _, rfl, rfl⟩⟩
  have d0 : Dr w p a len cap (w.alloc (.cells #[] 2)) := hd.alloc _
  clear hd hbs
  go_loopw [3, 4] (fun v s wr => ∃ (k : Nat) (f : Nat → Int), k ≤ 9 ∧ s = .int .i64 k ∧ Hid (v ≠ .slice none 0 0) ∧ wr.ownsRow w.heap.size 2 1 v k (iCells f k) ∧ Dr w p a len cap wr) (fun _ s _ => 9 - (intOf s).toNat)
  case atStart => exact ⟨0, _, Nat.zero_le _, rfl, ne_nil _ _ _, o0, d0⟩
  case round =>
    clear o0 d0
    obtain ⟨k, f, hk, rfl, hnn, hown, hd⟩ := hrel
    by_cases hlt2 : k < 9
    · have hlt' : (k : Int) < 9 := by omega
      go_wp2_with fail
      refine (from_dr (Dr.start hd.2) (-5) 5 (by decide) (by decide) (by decide)).mono ?_
      rintro e w1 ⟨x, rfl, x0, x1, hd1⟩
      have hown1 := ownsRow_kept hown hd1.1 hlt
      have hd2 := hd1.from hd.1
      clear hd1 hown hd
      by_cases hk4 : (k : Int) % 4 = 0
      · have hk4' : ((k : Int) % 4 == 0) = true := by simpa using hk4
        go_wp2_with fail
        refine (once_dr (Dr.start hd2.2) 2 (by decide) (by decide)).mono ?_
        rintro e w3 ⟨b, rfl, hd4⟩
        replace hown1 := ownsRow_kept hown1 hd4.1 hlt
        replace hd2 := hd4.from hd2.1
        clear hd4
        cases b
        · have hsz : w.heap.size ≤ w3.heap.size := hd2.1.size
          have hd3 : Dr w p a len cap (w3.alloc (.cells #[.int .i64 x] 2)) := hd2.alloc _
          obtain ⟨i0, hi0, hz0, hz1, hz2⟩ := info_parts Try.info2
          go_wp2_with (at_builtin; refine wpList_append_lies _ rfl _ _ _ rfl w.heap.size 2 i0 _ 1 8 Try.underlying24 hi0 hz0 hz1 hz2 rfl (by omega) u3 k (iCells f k) rfl (hown1.alloc _) ⟨w3.heap.size, 0, none⟩ 1 1 [.int .i64 x] rfl rfl (World.news_of_block (cs := #[.int .i64 x]) (t := 2) (fr := (0, 0)) (heap_alloc_new w3 _)) (by simp [Value.oneCell']) (by omega) (by unfold maxLen; omega) (by omega) (by simp; omega) (w3.heap.size + 1) (by simp) ?_; intro g gcap w2 hown2 hgrow hat hlt3)
          refine ⟨⟨k + 1, fun i => if i = k then x else f i, by omega, by go_num, ne_nil _ _ _, ?_, ?_⟩, ?_⟩
          · rw [← iCells_snoc]; exact hown2
          · exact hd3.grown hgrow (fun j hj => ownBlock_ge hown1 hj) hlt
          · simp [intOf]; omega
        · go_wp2_with fail
          refine (below_dr (Dr.start hd2.2) 6 (by decide) (by decide)).mono ?_
          rintro e w4 ⟨y, rfl, y0, y1, hd5⟩
          replace hown1 := ownsRow_kept hown1 hd5.1 hlt
          replace hd2 := hd5.from hd2.1
          clear hd5
          have hsz : w.heap.size ≤ w4.heap.size := hd2.1.size
          have hd3 : Dr w p a len cap (w4.alloc (.cells #[.int .i64 (1 + y)] 2)) := hd2.alloc _
          obtain ⟨i0, hi0, hz0, hz1, hz2⟩ := info_parts Try.info2
          go_wp2_with (at_builtin; refine wpList_append_lies _ rfl _ _ _ rfl w.heap.size 2 i0 _ 1 8 Try.underlying24 hi0 hz0 hz1 hz2 rfl (by omega) u3 k (iCells f k) rfl (hown1.alloc _) ⟨w4.heap.size, 0, none⟩ 1 1 [.int .i64 (1 + y)] rfl rfl (World.news_of_block (cs := #[.int .i64 (1 + y)]) (t := 2) (fr := (0, 0)) (heap_alloc_new w4 _)) (by simp [Value.oneCell']) (by omega) (by unfold maxLen; omega) (by omega) (by simp; omega) (w4.heap.size + 1) (by simp) ?_; intro g gcap w2 hown2 hgrow hat hlt3)
          refine ⟨⟨k + 1, fun i => if i = k then (1 + y) else f i, by omega, by go_num, ne_nil _ _ _, ?_, ?_⟩, ?_⟩
          · rw [← iCells_snoc]; exact hown2
          · exact hd3.grown hgrow (fun j hj => ownBlock_ge hown1 hj) hlt
          · simp [intOf]; omega
      · have hk4' : ((k : Int) % 4 == 0) = false := by simpa using hk4
        have hsz : w.heap.size ≤ w1.heap.size := hd2.1.size
        have hd3 : Dr w p a len cap (w1.alloc (.cells #[.int .i64 x] 2)) := hd2.alloc _
        obtain ⟨i0, hi0, hz0, hz1, hz2⟩ := info_parts Try.info2
        go_wp2_with (at_builtin; refine wpList_append_lies _ rfl _ _ _ rfl w.heap.size 2 i0 _ 1 8 Try.underlying24 hi0 hz0 hz1 hz2 rfl (by omega) u3 k (iCells f k) rfl (hown1.alloc _) ⟨w1.heap.size, 0, none⟩ 1 1 [.int .i64 x] rfl rfl (World.news_of_block (cs := #[.int .i64 x]) (t := 2) (fr := (0, 0)) (heap_alloc_new w1 _)) (by simp [Value.oneCell']) (by omega) (by unfold maxLen; omega) (by omega) (by simp; omega) (w1.heap.size + 1) (by simp) ?_; intro g gcap w2 hown2 hgrow hat hlt3)
        refine ⟨⟨k + 1, fun i => if i = k then x else f i, by omega, by go_num, ne_nil _ _ _, ?_, ?_⟩, ?_⟩
        · rw [← iCells_snoc]; exact hown2
        · exact hd3.grown hgrow (fun j hj => ownBlock_ge hown1 hj) hlt
        · simp [intOf]; omega
    · have hlt' : ¬ (k : Int) < 9 := by omega
      obtain rfl : k = 9 := by omega
      obtain ⟨g, c, rfl, hg, hc9, hm⟩ := made_of hown hnn.out
      clear hown hnn
      have hgp : g ≠ p := by omega
      go_wp2_with fail
      refine (once_dr (Dr.start hd.2) 20 (by decide) (by decide)).mono ?_
      rintro e w1 ⟨b, rfl, hd1⟩
      replace hm := hm.kept hd1.1 hgp
      replace hd := hd1.from hd.1
      clear hd1
      cases b
      · go_wp2_with fail
        refine (once_dr (Dr.start hd.2) 16 (by decide) (by decide)).mono ?_
        rintro e w5 ⟨b5, rfl, hd5⟩
        replace hm := hm.kept hd5.1 hgp
        replace hd := hd5.from hd.1
        clear hd5
        cases b5
        · go_wp2
          go_ret
          exact ⟨g, c, _, rfl, hg, hc9, hm, hd⟩
        · go_wp2
          have hm0 : ∃ f, Made w5 g c 9 f := ⟨_, hm⟩
          clear hm
          go_loopw [6] (fun s wr => ∃ k : Nat, k ≤ 9 ∧ s = .int .i64 k ∧ (∃ f, Made wr g c 9 f) ∧ Dr w p a len cap wr) (fun s _ => 9 - (intOf s).toNat)
          case atStart => exact ⟨0, Nat.zero_le _, rfl, hm0, hd⟩
          case round =>
            clear hm0 hd
            obtain ⟨k, hk, rfl, ⟨fk, hmk⟩, hdk⟩ := hrel
            by_cases hlk : k < 9
            · have hlk' : (k : Int) < 9 := by omega
              go_wp2_with fail
              refine (from_dr (Dr.start hdk.2) (-1000) 1000 (by decide) (by decide) (by decide)).mono ?_
              rintro e w6 ⟨z, rfl, z0, z1, hd6⟩
              replace hmk := hmk.kept hd6.1 hgp
              replace hdk := hd6.from hdk.1
              clear hd6
              have hcell : w6.cell? ⟨g, k, none⟩ = some (.int .i64 (fk k)) ∧ w6.frozen? ⟨g, k, none⟩ = false := by
                obtain ⟨cur, q1, q2, q3⟩ := hmk
                exact ⟨q1.cell k (q3 k hlk), q1.frozen k⟩
              obtain ⟨e1, e2⟩ := hcell
              have HM : Hid (Made w6 g c 9 fk) := hmk
              have HD : Hid (Dr w p a len cap w6) := hdk
              clear hmk hdk
              go_wp2
              refine ⟨⟨k + 1, by omega, by go_num, ⟨_, HM.out.put hlk hc9 z⟩, HD.out.set hg hlt _⟩, by simp [intOf]; omega⟩
            · have hlk' : ¬ (k : Int) < 9 := by omega
              go_wp2
              go_ret
              first | exact ⟨g, c, _, rfl, hg, hc9, hmk, hdk⟩ | exact ⟨g, c, rfl, hg, hc9, ⟨_, hmk⟩, hdk⟩
      · go_wp2_with fail
        refine (below_dr (Dr.start hd.2) 9 (by decide) (by decide)).mono ?_
        rintro e w2 ⟨y, rfl, y0, y1, hd2⟩
        replace hm := hm.kept hd2.1 hgp
        replace hd := hd2.from hd.1
        clear hd2
        obtain ⟨W3, hW3, a3, b3, -⟩ := boxed w2 2 #[.int .i64 1000, .int .i64 (-1000), .int .i64 997]
        have hl2 : w.heap.size ≤ w2.heap.size := hd.1.size
        have hm3 : Made W3 g c 9 f := by
          obtain ⟨cur, q1, q2⟩ := hm
          exact ⟨cur, q1.below b3, q2⟩
        have hd3 : Dr w p a len cap W3 := hd.below b3
        clear hm hd
        go_wp2_with fail
        refine (below_dr (Dr.start hd3.2) 3 (by decide) (by decide)).mono ?_
        rintro e w4 ⟨z, rfl, z0, z1, hd4⟩
        obtain ⟨y', rfl⟩ : ∃ n : Nat, y = n := ⟨y.toNat, by omega⟩
        have hy9 : y' < 9 := by omega
        have hm4 := hm3.kept hd4.1 hgp
        have hd : Dr w p a len cap w4 := hd4.from hd3.1
        have a4 : At 2 w4 w2.heap.size #[.int .i64 1000, .int .i64 (-1000), .int .i64 997] := (hd4.1.block _ a3.lt (by omega)).trans a3
        obtain ⟨c0, c1, c2, -⟩ := a4.open3
        have hcell : w4.cell? ⟨g, y', none⟩ = some (.int .i64 (f y')) ∧ w4.frozen? ⟨g, y', none⟩ = false := by
          obtain ⟨cur, q1, q2, q3⟩ := hm4
          exact ⟨q1.cell y' (q3 y' hy9), q1.frozen y'⟩
        obtain ⟨e1, e2⟩ := hcell
        have HM : Hid (Made w4 g c 9 f) := hm4
        have HD : Hid (Dr w p a len cap w4) := hd
        clear hm3 hd3 hd4 hm4 hd a3 a4 hW3
        rcases (by omega : z = 0 ∨ z = 1 ∨ z = 2) with rfl | rfl | rfl
        · go_wp2_with fail
          have hm := HM.out.put hy9 hc9 1000
          have hd := HD.out.set (i := y') hg hlt (.int .i64 1000)
          clear HM HD
          refine (once_dr (Dr.start hd.2) 16 (by decide) (by decide)).mono ?_
          rintro e w5 ⟨b5, rfl, hd5⟩
          replace hm := hm.kept hd5.1 hgp
          replace hd := hd5.from hd.1
          clear hd5
          cases b5
          · go_wp2
            go_ret
            exact ⟨g, c, _, rfl, hg, hc9, hm, hd⟩
          · go_wp2
            have hm0 : ∃ f, Made w5 g c 9 f := ⟨_, hm⟩
            clear hm
            go_loopw [6] (fun s wr => ∃ k : Nat, k ≤ 9 ∧ s = .int .i64 k ∧ (∃ f, Made wr g c 9 f) ∧ Dr w p a len cap wr) (fun s _ => 9 - (intOf s).toNat)
            case atStart => exact ⟨0, Nat.zero_le _, rfl, hm0, hd⟩
            case round =>
              clear hm0 hd
              obtain ⟨k, hk, rfl, ⟨fk, hmk⟩, hdk⟩ := hrel
              by_cases hlk : k < 9
              · have hlk' : (k : Int) < 9 := by omega
                go_wp2_with fail
                refine (from_dr (Dr.start hdk.2) (-1000) 1000 (by decide) (by decide) (by decide)).mono ?_
                rintro e w6 ⟨z, rfl, z0, z1, hd6⟩
                replace hmk := hmk.kept hd6.1 hgp
                replace hdk := hd6.from hdk.1
                clear hd6
                have hcell : w6.cell? ⟨g, k, none⟩ = some (.int .i64 (fk k)) ∧ w6.frozen? ⟨g, k, none⟩ = false := by
                  obtain ⟨cur, q1, q2, q3⟩ := hmk
                  exact ⟨q1.cell k (q3 k hlk), q1.frozen k⟩
                obtain ⟨e1, e2⟩ := hcell
                have HM : Hid (Made w6 g c 9 fk) := hmk
                have HD : Hid (Dr w p a len cap w6) := hdk
                clear hmk hdk
                go_wp2
                refine ⟨⟨k + 1, by omega, by go_num, ⟨_, HM.out.put hlk hc9 z⟩, HD.out.set hg hlt _⟩, by simp [intOf]; omega⟩
              · have hlk' : ¬ (k : Int) < 9 := by omega
                go_wp2
                go_ret
                first | exact ⟨g, c, _, rfl, hg, hc9, hmk, hdk⟩ | exact ⟨g, c, rfl, hg, hc9, ⟨_, hmk⟩, hdk⟩
        · go_wp2_with fail
          have hm := HM.out.put hy9 hc9 (-1000)
          have hd := HD.out.set (i := y') hg hlt (.int .i64 (-1000))
          clear HM HD
          refine (once_dr (Dr.start hd.2) 16 (by decide) (by decide)).mono ?_
          rintro e w5 ⟨b5, rfl, hd5⟩
          replace hm := hm.kept hd5.1 hgp
          replace hd := hd5.from hd.1
          clear hd5
          cases b5
          · go_wp2
            go_ret
            exact ⟨g, c, _, rfl, hg, hc9, hm, hd⟩
          · go_wp2
            have hm0 : ∃ f, Made w5 g c 9 f := ⟨_, hm⟩
            clear hm
            go_loopw [6] (fun s wr => ∃ k : Nat, k ≤ 9 ∧ s = .int .i64 k ∧ (∃ f, Made wr g c 9 f) ∧ Dr w p a len cap wr) (fun s _ => 9 - (intOf s).toNat)
            case atStart => exact ⟨0, Nat.zero_le _, rfl, hm0, hd⟩
            case round =>
              clear hm0 hd
              obtain ⟨k, hk, rfl, ⟨fk, hmk⟩, hdk⟩ := hrel
              by_cases hlk : k < 9
              · have hlk' : (k : Int) < 9 := by omega
                go_wp2_with fail
                refine (from_dr (Dr.start hdk.2) (-1000) 1000 (by decide) (by decide) (by decide)).mono ?_
                rintro e w6 ⟨z, rfl, z0, z1, hd6⟩
                replace hmk := hmk.kept hd6.1 hgp
                replace hdk := hd6.from hdk.1
                clear hd6
                have hcell : w6.cell? ⟨g, k, none⟩ = some (.int .i64 (fk k)) ∧ w6.frozen? ⟨g, k, none⟩ = false := by
                  obtain ⟨cur, q1, q2, q3⟩ := hmk
                  exact ⟨q1.cell k (q3 k hlk), q1.frozen k⟩
                obtain ⟨e1, e2⟩ := hcell
                have HM : Hid (Made w6 g c 9 fk) := hmk
                have HD : Hid (Dr w p a len cap w6) := hdk
                clear hmk hdk
                go_wp2
                refine ⟨⟨k + 1, by omega, by go_num, ⟨_, HM.out.put hlk hc9 z⟩, HD.out.set hg hlt _⟩, by simp [intOf]; omega⟩
              · have hlk' : ¬ (k : Int) < 9 := by omega
                go_wp2
                go_ret
                first | exact ⟨g, c, _, rfl, hg, hc9, hmk, hdk⟩ | exact ⟨g, c, rfl, hg, hc9, ⟨_, hmk⟩, hdk⟩
        · go_wp2_with fail
          have hm := HM.out.put hy9 hc9 997
          have hd := HD.out.set (i := y') hg hlt (.int .i64 997)
          clear HM HD
          refine (once_dr (Dr.start hd.2) 16 (by decide) (by decide)).mono ?_
          rintro e w5 ⟨b5, rfl, hd5⟩
          replace hm := hm.kept hd5.1 hgp
          replace hd := hd5.from hd.1
          clear hd5
          cases b5
          · go_wp2
            go_ret
            exact ⟨g, c, _, rfl, hg, hc9, hm, hd⟩
          · go_wp2
            have hm0 : ∃ f, Made w5 g c 9 f := ⟨_, hm⟩
            clear hm
            go_loopw [6] (fun s wr => ∃ k : Nat, k ≤ 9 ∧ s = .int .i64 k ∧ (∃ f, Made wr g c 9 f) ∧ Dr w p a len cap wr) (fun s _ => 9 - (intOf s).toNat)
            case atStart => exact ⟨0, Nat.zero_le _, rfl, hm0, hd⟩
            case round =>
              clear hm0 hd
              obtain ⟨k, hk, rfl, ⟨fk, hmk⟩, hdk⟩ := hrel
              by_cases hlk : k < 9
              · have hlk' : (k : Int) < 9 := by omega
                go_wp2_with fail
                refine (from_dr (Dr.start hdk.2) (-1000) 1000 (by decide) (by decide) (by decide)).mono ?_
                rintro e w6 ⟨z, rfl, z0, z1, hd6⟩
                replace hmk := hmk.kept hd6.1 hgp
                replace hdk := hd6.from hdk.1
                clear hd6
                have hcell : w6.cell? ⟨g, k, none⟩ = some (.int .i64 (fk k)) ∧ w6.frozen? ⟨g, k, none⟩ = false := by
                  obtain ⟨cur, q1, q2, q3⟩ := hmk
                  exact ⟨q1.cell k (q3 k hlk), q1.frozen k⟩
                obtain ⟨e1, e2⟩ := hcell
                have HM : Hid (Made w6 g c 9 fk) := hmk
                have HD : Hid (Dr w p a len cap w6) := hdk
                clear hmk hdk
                go_wp2
                refine ⟨⟨k + 1, by omega, by go_num, ⟨_, HM.out.put hlk hc9 z⟩, HD.out.set hg hlt _⟩, by simp [intOf]; omega⟩
              · have hlk' : ¬ (k : Int) < 9 := by omega
                go_wp2
                go_ret
                first | exact ⟨g, c, _, rfl, hg, hc9, hmk, hdk⟩ | exact ⟨g, c, rfl, hg, hc9, ⟨_, hmk⟩, hdk⟩
end Go.Proofs.Ytlgkohiempcbhaa
