/-
  A list of complex numbers drawn, walked.
-/
import Derived.Test.YtmlgkmgkicdnbaaLWalkN
import Derived.Deep.AppendLies
namespace Go.Proofs.Ytmlgkmgkicdnbaa
open Go.RowKit Fl

/-- The cells of the first n numbers. -/
def cxCells (f : Nat → Nat × Nat) : Nat → List Value
  | 0 => []
  | n + 1 => cxCells f n ++ [.float .f64 (f n).1, .float .f64 (f n).2]

theorem cxCells_len (f : Nat → Nat × Nat) (n : Nat) : (cxCells f n).length = n * 2 := by
  induction n with
  | zero => rfl
  | succ n ih => simp [cxCells, ih]; omega

theorem cxCells_at (f : Nat → Nat × Nat) {n i : Nat} (h : i < n) : (cxCells f n)[i * 2]? = some (.float .f64 (f i).1) ∧ (cxCells f n)[i * 2 + 1]? = some (.float .f64 (f i).2) := by
  induction n with
  | zero => omega
  | succ n ih =>
    unfold cxCells
    by_cases e : i = n
    · subst e
      have hl := cxCells_len f i
      constructor
      · rw [List.getElem?_append_right (by omega), hl]; simp
      · rw [List.getElem?_append_right (by omega), hl]; simp
    · obtain ⟨h1, h2⟩ := ih (by omega)
      have hl := cxCells_len f n
      exact ⟨by rw [List.getElem?_append_left (by omega)]; exact h1, by rw [List.getElem?_append_left (by omega)]; exact h2⟩

theorem cxCells_congr {f g : Nat → Nat × Nat} {n : Nat} (h : ∀ i, i < n → f i = g i) : cxCells f n = cxCells g n := by
  induction n with
  | zero => rfl
  | succ n ih => unfold cxCells; rw [ih (fun i hi => h i (by omega)), h n (by omega)]

theorem cxRow_of {w : World} {base g n cap : Nat} {f : Nat → Nat × Nat} (h : w.ownsRow base 28 2 (.slice (some ⟨g, 0, none⟩) n cap) n (cxCells f n)) : CxRow w g 0 n f := by
  rcases h.2 with ⟨h1, _⟩ | ⟨g', cap', cur, hv, _, hh, _, _, _, ht⟩
  · cases h1
  · cases hv
    intro i hi
    obtain ⟨a1, a2⟩ := cxCells_at f hi
    rw [← ht] at a1 a2
    have get : ∀ j, j < n * 2 → (cur.toList.take (n * 2))[j]? = cur[j]? := by
      intro j hj
      rw [List.getElem?_take_of_lt hj]; simp
    rw [get _ (by omega)] at a1 a2
    simp only [World.cell?, hh, Nat.zero_add]
    exact ⟨by simpa using a1, by simpa using a2⟩

theorem ownsRow_kept {w w' : World} {p base : Nat} {e : TypeId} {size : Nat} {v : Value} {n : Nat} {xs : List Value} (h : w.ownsRow base e size v n xs) (hk : Kept p w w') (hp : p < base) : w'.ownsRow base e size v n xs := by
  refine ⟨h.1, h.2.imp id ?_⟩
  rintro ⟨g, cap, cur, hv, hb, hh, r⟩
  exact ⟨g, cap, cur, hv, hb, (hk.block g (Array.getElem?_eq_some_iff.1 hh).1 (by omega)).trans hh, r⟩

theorem Dr.grown {w0 w w' : World} {p : Nat} {a : Option Addr} {len cap : Nat} {row : Option Nat} (h : Dr w0 p a len cap w) (hg : w.grownBy w' row) (hr : ∀ k, row = some k → w0.heap.size ≤ k) (hp : p < w0.heap.size) : Dr w0 p a len cap w' := by
  have hs := h.1.size
  have hk : Kept p w0 w' := ⟨hg.os.trans h.1.os, hg.tape.trans h.1.tape, hg.output.trans h.1.output, Nat.le_trans hs hg.size, fun k hk hkp => (hg.block k (by omega) (fun e => by have := hr k e.symm; omega)).trans (h.1.block k hk hkp)⟩
  refine ⟨hk, ?_⟩
  obtain ⟨i, x, hi, hh, hrow⟩ := h.2
  refine ⟨i, x, hi, (hg.block p (by omega) (fun e => by have := hr p e.symm; omega)).trans hh, hrow.1, hrow.2.imp id ?_⟩
  rintro ⟨b, off, e, hb, hc⟩
  refine ⟨b, off, e, hb, fun j hj => ?_⟩
  obtain ⟨n, n0, n1, hn⟩ := hc j hj
  exact ⟨n, n0, n1, (World.cell?_of_block (w := w) (hg.block b (by omega) (fun e => by have := hr b e.symm; omega))).trans hn⟩

theorem Try.info28 : (Try.prog.info? 28).map (fun i => (i.zero, i.size, i.bytes)) = some (some (.agg #[.float .f64 0, .float .f64 0]), 2, 16) := by kernel_rfl

theorem cxCells_snoc (f : Nat → Nat × Nat) (k x y : Nat) : cxCells f k ++ [.float .f64 x, .float .f64 y] = cxCells (fun i => if i = k then (x, y) else f i) (k + 1) := by
  show _ = cxCells (fun i => if i = k then (x, y) else f i) k ++ _
  rw [← cxCells_congr (f := f) (g := fun i => if i = k then (x, y) else f i) (fun i hi => by simp [show i ≠ k by omega])]
  simp

theorem ownBlock_ge {w : World} {base : Nat} {e : TypeId} {size : Nat} {v : Value} {n : Nat} {xs : List Value} (h : w.ownsRow base e size v n xs) {j : Nat} (hj : v.ownBlock = some j) : base ≤ j := by
  rcases h.2 with ⟨rfl, _⟩ | ⟨g, cap, cur, rfl, hb, _⟩
  · cases hj
  · cases hj; exact hb

theorem ne_nil (a : Addr) (n c : Nat) : Value.slice (some a) n c ≠ .slice none 0 0 := by intro h; cases h

theorem drawCxs_dr {w : World} {p : Nat} {a : Option Addr} {len cap : Nat} (hc : Cur w p a len cap) (n : Nat) (hn : n ≤ 30) :
    Calls Try.prog 26 #[.pointer (some ⟨p, 0, none⟩), .int .i64 n] w fun e w' => ∃ v f, e = .returned v ∧ v ≠ .slice none 0 0 ∧ w'.ownsRow w.heap.size 28 2 v n (cxCells f n) ∧ Dr w p a len cap w' := by
  have hlt := hc.lt
  have hd := Dr.start hc
  have hbs : ∀ w, (Instr.buildSlice 24 0 #[]).run Try.prog w = .ok (.slice (some ⟨w.heap.size, 0, none⟩) 0 0) (w.alloc (.cells #[] 28)) := fun _ => by kernel_rfl
  clear hc
  go_enter Try.func26, Try.ntmps26
  go_wp2
  have o0 : (w.alloc (.cells #[] 28)).ownsRow w.heap.size 28 2 (.slice (some ⟨w.heap.size, 0, none⟩) 0 0) 0 (cxCells (fun _ => (0, 0)) 0) :=
    ⟨rfl, .inr ⟨w.heap.size, 0, #[], rfl, Nat.le_refl _, heap_alloc_new _ _, Nat.le_refl _, Nat.zero_le _, rfl, rfl⟩⟩
  have d0 : Dr w p a len cap (w.alloc (.cells #[] 28)) := hd.alloc _
  clear hd hbs
  go_loopw [5, 6] (fun v s wr => ∃ (k : Nat) (f : Nat → Nat × Nat), k ≤ n ∧ s = .int .i64 k ∧ Hid (v ≠ .slice none 0 0) ∧ wr.ownsRow w.heap.size 28 2 v k (cxCells f k) ∧ Dr w p a len cap wr) (fun _ s _ => n - (intOf s).toNat)
  case atStart => exact ⟨0, _, Nat.zero_le _, rfl, ne_nil _ _ _, o0, d0⟩
  case round =>
    clear o0 d0
    obtain ⟨k, f, hk, rfl, hnn, hown, hd⟩ := hrel
    by_cases hlt2 : k < n
    · have hlt' : (k : Int) < (n : Int) := by omega
      go_wp2_with fail
      refine (drawCx_dr (Dr.start hd.2)).mono ?_
      rintro e w1 ⟨x, y, rfl, hx, hy, hd1⟩
      have hown1 := ownsRow_kept hown hd1.1 hlt
      have hd2 : Dr w p a len cap (w1.alloc (.cells #[.float .f64 x, .float .f64 y] 28)) := (hd1.from hd.1).alloc _
      have hsz : w.heap.size ≤ w1.heap.size := (hd1.from hd.1).1.size
      clear hd1 hown hd
      obtain ⟨i0, hi0, hz0, hz1, hz2⟩ := info_parts Try.info28
      go_wp2_with (at_builtin; refine wpList_append_lies _ rfl _ _ _ rfl w.heap.size 28 i0 _ 2 16 Try.underlying24 hi0 hz0 hz1 hz2 rfl (by omega) u5 k (cxCells f k) rfl (hown1.alloc _) ⟨w1.heap.size, 0, none⟩ 1 1 [.float .f64 x, .float .f64 y] rfl rfl (World.news_of_block (cs := #[.float .f64 x, .float .f64 y]) (t := 28) (fr := (0, 0)) (heap_alloc_new w1 _)) (by simp [Value.oneCell']) (by omega) (by unfold maxLen; omega) (by omega) (by simp; omega) (w1.heap.size + 1) (by simp) ?_; intro g gcap w2 hown2 hgrow hat hlt3)
      refine ⟨⟨k + 1, fun i => if i = k then (x, y) else f i, by omega, by go_num, ne_nil _ _ _, ?_, ?_⟩, ?_⟩
      · rw [← cxCells_snoc]; exact hown2
      · exact hd2.grown hgrow (fun j hj => ownBlock_ge hown1 hj) hlt
      · simp [intOf]; omega
    · have hlt' : ¬ (k : Int) < (n : Int) := by omega
      obtain rfl : k = n := by omega
      go_wp2
      go_ret
      exact ⟨_, rfl, hnn.out, ⟨f, hown⟩, hd⟩

theorem setCell_cells {w : World} {g i n : Nat} {cur : Array Value} {t : TypeId} {v : Value} (h : w.heap[g]? = some (.cells cur t (0, 0))) : ((w.drewN n).setCell ⟨g, i, none⟩ v).heap[g]? = some (.cells (cur.setIfInBounds i v) t (0, 0)) := by
  simp [World.setCell, Array.getElem?_modify, h]

theorem make_cx (M : Nat) (hM : M ≤ 5000) : ∃ C : Array Value, C.size = M * 2 ∧ ∀ w, (Instr.makeSlice 24 (.int .i64 (M : Int)) (.int .i64 (M : Int))).run Try.prog w = .ok (.slice (some ⟨w.heap.size, 0, none⟩) M M) (w.alloc (.cells C 28)) := by
  obtain ⟨i0, hi0, hz0, hz1, hz2⟩ := info_parts Try.info28
  refine ⟨madeCells (Value.agg #[.float .f64 0, .float .f64 0]).cells (M * 2), by simp [madeCells], fun w => ?_⟩
  have := run_make (P := Try.prog) w 24 28 i0 _ Try.underlying24 hi0 hz0 .i64 .i64 (M : Int) (M : Int) (by omega) (by omega) (by rw [hz2]; omega) (by omega)
  rw [this, hz1]
  simp

/-- What was drawn: a list that is too long for four more, or a short one. -/
def Drawn (base : Nat) (v : Value) (w' : World) : Prop :=
  (∃ g m cap, v = .slice (some ⟨g, 0, none⟩) m cap ∧ 4092 < m ∧ m ≤ 4097) ∨ (∃ n f, n ≤ 30 ∧ v ≠ .slice none 0 0 ∧ w'.ownsRow base 28 2 v n (cxCells f n))

theorem drawLanes_any {w : World} {a : Option Addr} {len cap : Nat} (hr : Row w w.heap.size a len) :
    Calls Try.prog 7 #[.slice a len cap] w fun e w' => ∃ v, e = .returned v ∧ Drawn w.heap.size v w' ∧ Below w.heap.size w w' := by
  go_enter Try.func7, Try.ntmps7
  go_wp2_with fail
  refine (new_any hr).mono ?_
  rintro e w3 ⟨rfl, hb3, hc3⟩
  clear hr
  go_wp2_with fail
  refine (below_dr (Dr.start hc3) 30 (by omega) (by omega)).mono ?_
  rintro e w4 ⟨z, rfl, z0, z1, hd4⟩
  obtain ⟨n, rfl⟩ := Int.eq_ofNat_of_zero_le z0
  go_wp2_with fail
  refine (drawCxs_dr hd4.2 n (by omega)).mono ?_
  rintro e w5 ⟨v, f, rfl, hnn, hown, hd5⟩
  have HN : Hid (v ≠ .slice none 0 0) := hnn
  clear hnn
  have b5 : Below w.heap.size w w5 := (hb3.trans ((hd4.1.below (Nat.le_refl _) hb3.size).trans ((hd5.1.below (Nat.le_refl _) (Nat.le_trans hb3.size hd4.1.size)))))
  have s5 : w.heap.size < w4.heap.size := hd4.2.lt
  clear hc3 hb3
  go_wp2_with fail
  refine (once_dr (Dr.start hd5.2) 60 (by omega) (by omega)).mono ?_
  rintro e w6 ⟨bo, rfl, hd6⟩
  have b6 := b5.trans (hd6.1.below (Nat.le_refl _) b5.size)
  cases bo
  · have hown6 := ownsRow_kept hown hd6.1 s5
    go_wp2
    go_ret
    refine ⟨_, rfl, .inr ⟨n, f, by omega, HN.out, ?_⟩, b6⟩
    refine ⟨hown6.1, hown6.2.imp id ?_⟩
    rintro ⟨g, cap', cur, hv, hb, r⟩
    exact ⟨g, cap', cur, hv, by omega, r⟩
  · clear hown hd4 hd5
    go_wp2_with fail
    refine (below_dr (Dr.start hd6.2) 2 (by omega) (by omega)).mono ?_
    rintro e w7 ⟨z, rfl, z0, z1, hd7⟩
    obtain ⟨m, rfl⟩ := Int.eq_ofNat_of_zero_le z0
    have b7 := b6.trans (hd7.1.below (Nat.le_refl _) b6.size)
    clear hd6 hd7 b5 b6
    obtain ⟨C, hC, hmk⟩ := make_cx (4096 + m) (by omega)
    have em : ((4096 + m : Nat) : Int) = 4096 + (m : Int) := by omega
    rw [em] at hmk
    go_wp2
    clear hmk
    have h0 : (w7.alloc (.cells C 28)).heap[w7.heap.size]? = some (.cells C 28 (0, 0)) := heap_alloc_new _ _
    have b8 : Below w.heap.size w (w7.alloc (.cells C 28)) := b7.alloc b7.size _
    go_loopw [5] (fun s wr => ∃ (k : Nat) (cur : Array Value), k ≤ 4096 + m ∧ s = .int .i64 k ∧ wr.heap[w7.heap.size]? = some (.cells cur 28 (0, 0)) ∧ cur.size = (4096 + m) * 2 ∧ Below w.heap.size w wr) (fun s _ => 4096 + m - (intOf s).toNat)
    case atStart => exact ⟨0, C, Nat.zero_le _, rfl, h0, hC, b8⟩
    case round =>
      clear h0 b8
      obtain ⟨k, cur, hk, rfl, hh, hcs, hbr⟩ := hrel
      by_cases hlt2 : k < 4096 + m
      · have hlt' : (k : Int) < 4096 + (m : Int) := by omega
        have c0 : wr.cell? ⟨w7.heap.size, k * 2, none⟩ = some (cv wr w7.heap.size (k * 2)) := by
          have : k * 2 < cur.size := by omega
          simp [cv, World.cell?, hh, this]
        have f0 : wr.frozen? ⟨w7.heap.size, k * 2, none⟩ = false := by simp [World.frozen?, hh]
        have HH : Hid (wr.heap[w7.heap.size]? = some (.cells cur 28 (0, 0))) := hh
        clear hh
        go_wp2
        refine ⟨⟨k + 1, _, by omega, by go_num, setCell_cells HH.out, by simp; exact hcs, (below_drewN hbr _).setCell b7.size _⟩, by simp [intOf]; omega⟩
      · have hlt' : ¬ (k : Int) < 4096 + (m : Int) := by omega
        go_wp2
        go_ret
        exact ⟨_, rfl, .inl ⟨_, 4096 + m, 4096 + m, rfl, by omega, by omega⟩, hbr⟩

end Go.Proofs.Ytmlgkmgkicdnbaa
