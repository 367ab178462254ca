/-
  Lists of numbers copied by append, walked.
-/
import Derived.Test.YtlofbgkefalpoaaIa
import Derived.Maps.AppendAt
import Derived.Lib.SliceRun
namespace Go.Proofs.Ytlofbgkefalpoaa
open Go.RowKit

/-- The cells of the first n numbers. -/
def iCells (f : Nat → Int) : Nat → List Value
  | 0 => []
  | n + 1 => iCells f n ++ [.int .i64 (f n)]
theorem iCells_len (f : Nat → Int) (n : Nat) : (iCells f n).length = n := by
  induction n with
  | zero => rfl
  | succ n ih => simp [iCells, ih]
theorem iCells_at (f : Nat → Int) {n i : Nat} (h : i < n) : (iCells f n)[i]? = some (.int .i64 (f i)) := by
  induction n with
  | zero => omega
  | succ n ih =>
    unfold iCells
    have hl := iCells_len f n
    by_cases e : i = n
    · subst e
      rw [List.getElem?_append_right (by omega), hl]; simp
    · rw [List.getElem?_append_left (by omega)]; exact ih (by omega)
theorem iCells_congr {f g : Nat → Int} {n : Nat} (h : ∀ i, i < n → f i = g i) : iCells f n = iCells g n := by
  induction n with
  | zero => rfl
  | succ n ih => unfold iCells; rw [ih (fun i hi => h i (by omega)), h n (by omega)]
theorem iCells_snoc (f : Nat → Int) (k : Nat) (x : Int) : iCells f k ++ [.int .i64 x] = iCells (fun i => if i = k then x else f i) (k + 1) := by
  show _ = iCells (fun i => if i = k then x else f i) k ++ _
  rw [← iCells_congr (f := f) (g := fun i => if i = k then x else f i) (fun i hi => by simp [show i ≠ k by omega])]
  simp
theorem iCells_one (f : Nat → Int) (n : Nat) : ∀ u ∈ iCells f n, u.oneCell' = true := by
  induction n with
  | zero => intro u hu; cases hu
  | succ n ih =>
    intro u hu
    unfold iCells at hu
    rcases List.mem_append.1 hu with h | h
    · exact ih u h
    · simp at h; subst h; rfl
theorem made_of {w : World} {base n : Nat} {v : Value} {f : Nat → Int} (h : w.ownsRow base 2 1 v n (iCells f n)) (hv : v ≠ .slice none 0 0) : ∃ g c, v = .slice (some ⟨g, 0, none⟩) n c ∧ base ≤ g ∧ n ≤ c ∧ Made w g c n f := by
  rcases h.2 with ⟨h1, _⟩ | ⟨g, c, cur, rfl, hb, hh, hc1, hc2, hsz, ht⟩
  · exact absurd h1 hv
  · have hn : n ≤ c := hc1
    refine ⟨g, c, rfl, hb, hn, cur, hh, by simpa using hsz, fun i hi => ?_⟩
    have a1 := iCells_at f hi
    rw [← ht] at a1
    rw [List.getElem?_take_of_lt (by omega)] at a1
    simpa using a1
theorem ne_nil (a : Addr) (n c : Nat) : Value.slice (some a) n c ≠ .slice none 0 0 := by intro h; cases h
theorem ints_news {w : World} {b o n : Nat} {f : Nat → Int} (h : Ints w b o n f) : ∀ j u, (iCells f n)[j]? = some u → w.cell? ((⟨b, o, none⟩ : Addr).add j) = some u := by
  intro j u hu
  have hj : j < n := by
    have := (List.getElem?_eq_some_iff.1 hu).1
    rwa [iCells_len] at this
  rw [iCells_at f hj] at hu
  have hc := h j hj
  rw [hu] at hc
  by_cases e : j = 0
  · subst e; simpa [Addr.add] using hc
  · simpa [Addr.add, e] using hc
theorem own_below {w w' : World} {B : Nat} {e : TypeId} {k : Nat} {v : Value} {n : Nat} {xs : List Value} (h : w.ownsRow B e k v n xs) (hb : Below w.heap.size w w') : w'.ownsRow B e k v n xs := by
  refine ⟨h.1, h.2.imp id ?_⟩
  rintro ⟨g, cap, cur, rfl, h1, h2, h3⟩
  exact ⟨g, cap, cur, rfl, h1, (hb.block g (Array.getElem?_eq_some_iff.1 h2).1).trans h2, h3⟩
theorem ownBlock_ge {w : World} {base : Nat} {e : TypeId} {size : Nat} {v : Value} {n : Nat} {xs : List Value} (h : w.ownsRow base e size v n xs) {j : Nat} (hj : v.ownBlock = some j) : base ≤ j := by
  rcases h.2 with ⟨rfl, _⟩ | ⟨g, cap, cur, rfl, hb, _⟩
  · cases hj
  · cases hj; exact hb

theorem arr_of_made {w : World} {lo g c n : Nat} {f : Nat → Int} (h : Made w g c n f) (hc : n ≤ c) (hl : lo ≤ g) : Arr w lo w.heap.size (.slice (some ⟨g, 0, none⟩) n c) n f := .inr ⟨g, c, rfl, hl, h.lt, hc, h⟩
theorem step_append_at {P : Program} (w : World) {ops : Array Oper} {o : Oper} {a : Act} {K : Act → World → Prop} {Q : Exit → Act → World → Prop} {E : Prop} (hgd : o.guard = none) (s x : Operand) (t : TypeId)
    (ho : o.op = .call { callee := .builtin .append, args := #[s, x], argTypes := #[t, t] })
    (base : Nat) (e : TypeId) (i : TypeInfo) (z : Value) (size bytes : Nat) (ht : P.underlying t = some (.slice e)) (hi : P.info? e = some i) (hz : i.zero = some z)
    (hsize : i.size = size) (hby : i.bytes = bytes) (hzs : z.cells.size = size) (hsz : 0 < size)
    (v : Value) (n : Nat) (xs : List Value) (hs : a.eval s = v) (hown : w.ownsRow base e size v n xs)
    (ad : Addr) (m c : Nat) (news : List Value) (hx : a.eval x = .slice (some ad) m c) (hl : news.length = m * size) (hnews : ∀ j u, news[j]? = some u → w.cell? (ad.add j) = some u) (h1 : ∀ u ∈ news, u.oneCell' = true)
    (h63 : n + m ≤ maxLen) (hbytes : (n + m) * bytes ≤ 140737488355328) (hbase : base ≤ w.heap.size)
    (h : ∀ v' w', w'.ownsRow base e size v' (n + m) (xs ++ news) → w.grownBy w' v.ownBlock → (v' = .slice none 0 0 ↔ v = .slice none 0 0 ∧ m = 0) → (v'.ownBlock = v.ownBlock ∨ v'.ownBlock = some w.heap.size) → K (a.put o.dst v') w') :
    if Region.wanted o (yielded ops a.tmps) = true then Oper.wp P o a w K Q else E := by
  have hw : Region.wanted o (yielded ops a.tmps) = true := by simp [Region.wanted, hgd]
  rw [if_pos hw]
  obtain ⟨v', w', hr, h2, h3, h4, h5⟩ := run_append_own_at (P := P) w base t o.type e i z size bytes ht hi hz hsize hby hzs hsz v n xs hown ad m c news hl hnews h1 h63 hbytes hbase
  unfold Oper.wp execOp
  simp only [ho, resolve, invoke, builtin, Sem.run_bind, Sem.run_pure, Result.andThen_ok, List.map_toArray, List.map_cons, List.map_nil, hs, hx, hr]
  exact h v' w' h2 h3 h4 h5
theorem made_of' {w : World} {base n g c : Nat} {f : Nat → Int} (h : w.ownsRow base 2 1 (.slice (some ⟨g, 0, none⟩) n c) n (iCells f n)) : base ≤ g ∧ n ≤ c ∧ Made w g c n f := by
  obtain ⟨g', c', e, h1, h2, h3⟩ := made_of h (ne_nil _ _ _)
  simp only [Value.slice.injEq, Option.some.injEq, Addr.mk.injEq] at e
  obtain ⟨⟨rfl, -, -⟩, -, rfl⟩ := e
  exact ⟨h1, h2, h3⟩
theorem own_far {w w' : World} {B : Nat} {e : TypeId} {k : Nat} {v : Value} {n : Nat} {xs : List Value} {row : Option Nat} (h : w.ownsRow B e k v n xs) (hg : w.grownBy w' row) (hne : v.ownBlock ≠ row) : w'.ownsRow B e k v n xs := by
  refine ⟨h.1, h.2.imp id ?_⟩
  rintro ⟨g, cap, cur, rfl, h1, h2, h3⟩
  exact ⟨g, cap, cur, rfl, h1, (hg.block g (Array.getElem?_eq_some_iff.1 h2).1 (fun e => hne e)).trans h2, h3⟩
set_option maxRecDepth 100000 in
theorem intsC_any {w : World} {b o c n : Nat} {f : Nat → Int} (h : Ints w b o n f) (hb : b < w.heap.size) (hn : n ≤ 1048576) :
    Calls Try.prog 10 #[.slice (some ⟨b, o, none⟩) n c] w fun e w' => ∃ g' c', e = .returned (.slice (some ⟨g', 0, none⟩) n c') ∧ w.heap.size ≤ g' ∧ n ≤ c' ∧ Made w' g' c' n f ∧ Below w.heap.size w w' := by
  have hbs : ∀ w, (Instr.buildSlice 26 0 #[]).run Try.prog w = .ok (.slice (some ⟨w.heap.size, 0, none⟩) 0 0) (w.alloc (.cells #[] 2)) := fun _ => by kernel_rfl
  have hm1 : Ints (w.alloc (.cells #[] 2)) b o n f := h.below hb (below_alloc _ _)
  have o0 : (w.alloc (.cells #[] 2)).ownsRow w.heap.size 2 1 (.slice (some ⟨w.heap.size, 0, none⟩) 0 0) 0 [] :=
    ⟨rfl, .inr ⟨w.heap.size, 0, #[], rfl, Nat.le_refl _, heap_alloc_new _ _, Nat.le_refl _, Nat.zero_le _, rfl, rfl⟩⟩
  obtain ⟨i0, hi0, hz0, hz1, hz2⟩ := info_parts infoI
  have hn' : (n : Int) ≤ 1048576 := by omega
  clear h hb
  go_enter Try.func10, Try.ntmps10
  go_wp2_with (at_builtin; refine wpList_append_own _ rfl _ _ _ rfl w.heap.size 2 i0 _ 1 8 Try.underlying26 hi0 hz0 hz1 hz2 rfl (by omega) (.slice (some ⟨w.heap.size, 0, none⟩) 0 0) 0 [] rfl o0 ⟨b, o, none⟩ n c (iCells f n) rfl (by rw [iCells_len]; omega) (ints_news hm1) (iCells_one f n) (by unfold maxLen; omega) (by omega) (by simp) ?_; intro v2 w2 hown2 hgrow2 hne2)
  simp only [Nat.zero_add, List.nil_append] at hown2
  obtain ⟨g', c', rfl, hg', hc', hm'⟩ := made_of hown2 (fun h => ne_nil _ _ _ (hne2.1 h).1)
  go_ret
  exact ⟨g', c', rfl, hg', hc', hm', (below_alloc w (.cells #[] 2)).grown hgrow2 (by simp) (fun k hk => by cases hk; exact Nat.le_refl _)⟩
end Go.Proofs.Ytlofbgkefalpoaa
