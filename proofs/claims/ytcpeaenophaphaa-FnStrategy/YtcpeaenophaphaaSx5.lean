/-
  Lists of lists copied, and the law FnStrategy: walked.
-/
import Derived.Test.YtcpeaenophaphaaSx4
namespace Go.Proofs.Ytcpeaenophaphaa
open Go.RowKit

/-- Where the lists lie. -/
def Adr (w : World) (m : Nat) (a : Nat → Option Addr) : Prop := ∀ i, i < m → ∃ g, a i = some ⟨g, 0, none⟩ ∧ g < w.heap.size
theorem Adr.below {w w' : World} {m : Nat} {a : Nat → Option Addr} (h : Adr w m a) (hb : Below w.heap.size w w') : Adr w' m a := fun i hi => by
  obtain ⟨g, h1, h2⟩ := h i hi
  exact ⟨g, h1, Nat.lt_of_lt_of_le h2 hb.size⟩
theorem LL.read {bd : Nat} {w : World} {B : Nat} {v : Value} {m : Nat} {V : Nat → Value} (s : LL bd w B v m V) : ∃ g cp a c n f, v = .slice (some ⟨g, 0, none⟩) m cp ∧ Lli w g 0 m a c n f ∧ (∀ i, i < m → n i ≤ bd) ∧ Adr w m a := by
  obtain ⟨g, cp, cur, rfl, h1, hh, q1, q2, q3, q4⟩ := s.open
  have ex : ∀ i, ∃ (gi c n : Nat) (f : Nat → Int), i < m → (V i = .slice (some ⟨gi, 0, none⟩) n c ∧ Src w (some ⟨gi, 0, none⟩) n f ∧ n ≤ bd ∧ gi < w.heap.size) := fun i => by
    by_cases hi : i < m
    · obtain ⟨z, k1, k2⟩ := s.each i hi
      obtain ⟨g1, c1, e1, hg1, hs⟩ := k1.src
      exact ⟨_, _, _, _, fun _ => ⟨e1, hs, k2, hg1⟩⟩
    · exact ⟨0, 0, 0, fun _ => 0, fun h => absurd h hi⟩
  have sp := fun i => Classical.choose_spec (Classical.choose_spec (Classical.choose_spec (Classical.choose_spec (ex i))))
  refine ⟨g, cp, fun i => some ⟨Classical.choose (ex i), 0, none⟩, fun i => Classical.choose (Classical.choose_spec (ex i)), fun i => Classical.choose (Classical.choose_spec (Classical.choose_spec (ex i))), fun i => Classical.choose (Classical.choose_spec (Classical.choose_spec (Classical.choose_spec (ex i)))), rfl, ⟨hh.lt, fun i hi => ?_, fun i hi => (sp i hi).2.1⟩, fun i hi => (sp i hi).2.2.1, fun i hi => ⟨_, rfl, (sp i hi).2.2.2⟩⟩
  have h3 := vCells_at V hi
  rw [← q4, List.getElem?_take_of_lt hi, Array.getElem?_toList] at h3
  rw [Nat.zero_add, hh.cell i h3, ← (sp i hi).1]
/-- The first k lists copied. -/
structure Cpy (w : World) (B : Nat) (v : Value) (k : Nat) (V : Nat → Value) (n : Nat → Nat) (f : Nat → Nat → Int) : Prop where
  row : w.ownsRow B 25 1 v k (vCells V k)
  nn : v ≠ .slice none 0 0
  each : ∀ i, i < k → ∃ g c cur, V i = .slice (some ⟨g, 0, none⟩) (n i) c ∧ At 2 w g cur ∧ ∀ j, j < n i → cur[j]? = some (.int .i64 (f i j))
theorem Cpy.below {w w' : World} {B : Nat} {v : Value} {k : Nat} {V : Nat → Value} {n : Nat → Nat} {f : Nat → Nat → Int} (s : Cpy w B v k V n f) (hb : Below w.heap.size w w') : Cpy w' B v k V n f :=
  ⟨own_bel s.row hb, s.nn, fun i hi => by obtain ⟨g, c, cur, h1, h2, h3⟩ := s.each i hi; exact ⟨g, c, cur, h1, h2.below hb, h3⟩⟩
theorem Cpy.open {w : World} {B : Nat} {v : Value} {k : Nat} {V : Nat → Value} {n : Nat → Nat} {f : Nat → Nat → Int} (s : Cpy w B v k V n f) : ∃ g c cur, v = .slice (some ⟨g, 0, none⟩) k c ∧ B ≤ g ∧ At 25 w g cur ∧ cur.toList.take k = vCells V k := by
  rcases s.row.2 with ⟨e, _⟩ | ⟨g, c, cur, e, hb, hh, hc1, hc2, hsz, ht⟩
  · exact absurd e s.nn
  · exact ⟨g, c, cur, e, hb, hh, by simpa using ht⟩
theorem at_neS {w : World} {t u : TypeId} {p q : Nat} {xs ys : Array Value} (h : At t w p xs) (h' : At u w q ys) (ht : t ≠ u) : p ≠ q := by
  rintro rfl
  have e := h.symm.trans h'
  simp only [Option.some.injEq, Obj.cells.injEq] at e
  exact ht e.2.1
theorem Cpy.push {w w' : World} {B : Nat} {v v' : Value} {k gn cn : Nat} {V : Nat → Value} {n : Nat → Nat} {f : Nat → Nat → Int} {cur : Array Value} (s : Cpy w B v k V n f) (hu : At 2 w gn cur) (hc : ∀ j, j < n k → cur[j]? = some (.int .i64 (f k j))) (h1 : w'.ownsRow B 25 1 v' (k + 1) (vCells V k ++ [.slice (some ⟨gn, 0, none⟩) (n k) cn])) (hg : w.grownBy w' v.ownBlock) (h2 : v' = .slice none 0 0 ↔ v = .slice none 0 0 ∧ 1 = 0) : Cpy w' B v' (k + 1) (upd V k (.slice (some ⟨gn, 0, none⟩) (n k) cn)) n f := by
  obtain ⟨go, co, curo, rfl, -, ho, -⟩ := s.open
  have keep : ∀ {g : Nat} {c : Array Value}, At 2 w g c → At 2 w' g c := fun {g} {c} h => (hg.block g h.lt (fun e => at_neS h ho (by decide) (by simpa [Value.ownBlock] using e))).trans h
  refine ⟨by rw [vCells_put]; exact h1, fun e => absurd (h2.1 e).2 (by decide), fun i hi => ?_⟩
  by_cases e : i = k
  · subst e
    rw [upd_at]
    exact ⟨gn, cn, cur, rfl, keep hu, hc⟩
  · rw [upd_o _ _ e]
    obtain ⟨g, c, cur, k1, k2, k3⟩ := s.each i (by omega)
    exact ⟨g, c, cur, k1, keep k2, k3⟩
theorem Cpy.read {w : World} {B : Nat} {v : Value} {k : Nat} {V : Nat → Value} {n : Nat → Nat} {f : Nat → Nat → Int} (s : Cpy w B v k V n f) : ∃ g cp a c, v = .slice (some ⟨g, 0, none⟩) k cp ∧ Lli w g 0 k a c n f := by
  obtain ⟨g, cp, cur, rfl, -, hh, q4⟩ := s.open
  have ex : ∀ i, ∃ (gi c : Nat), i < k → (V i = .slice (some ⟨gi, 0, none⟩) (n i) c ∧ Src w (some ⟨gi, 0, none⟩) (n i) (f i)) := fun i => by
    by_cases hi : i < k
    · obtain ⟨g1, c1, cur1, e1, h2, h3⟩ := s.each i hi
      exact ⟨g1, c1, fun _ => ⟨e1, .inr ⟨g1, 0, rfl, h2.lt, fun j hj => by rw [Nat.zero_add]; exact h2.cell j (h3 j hj)⟩⟩⟩
    · exact ⟨0, 0, fun h => absurd h hi⟩
  have sp := fun i => Classical.choose_spec (Classical.choose_spec (ex i))
  refine ⟨g, cp, fun i => some ⟨Classical.choose (ex i), 0, none⟩, fun i => Classical.choose (Classical.choose_spec (ex i)), rfl, ⟨hh.lt, fun i hi => ?_, fun i hi => (sp i hi).2⟩⟩
  have h3 := vCells_at V hi
  rw [← q4, List.getElem?_take_of_lt hi, Array.getElem?_toList] at h3
  rw [Nat.zero_add, hh.cell i h3, ← (sp i hi).1]
theorem intsL {w : World} {a : Option Addr} {n g : Nat} {f : Nat → Int} (h : Src w a n f) (ha : a = some ⟨g, 0, none⟩) : Ints w g 0 n f := by
  rcases h with rfl | ⟨b, off, e, hb, hr⟩
  · intro i hi; omega
  · rw [ha] at e
    cases e
    exact hr
/-- What a copy tells. -/
def SetC (w : World) (N : Nat) (n : Nat → Nat) (f : Nat → Nat → Int) (e : Ending) (w' : World) : Prop := ∃ g cp a' c', e = .returned (.slice (some ⟨g, 0, none⟩) N cp) ∧ Lli w' g 0 N a' c' n f ∧ Below w.heap.size w w'
set_option maxRecDepth 100000 in
set_option maxHeartbeats 8000000 in
theorem sets_any {w : World} {b N cap : Nat} {a : Nat → Option Addr} {c : Nat → Nat} {n : Nat → Nat} {f : Nat → Nat → Int} (hS : Lli w b 0 N a c n f) (hA : Adr w N a) (hN : N ≤ 100) (hn : ∀ i, i < N → n i ≤ 1000) :
    Calls Try.prog 13 #[.slice (some ⟨b, 0, none⟩) N cap] w (SetC w N n f) := by
  obtain ⟨i1, hi1, hy0, hy1, hy2⟩ := info_parts infoSlS
  have hN' : (N : Int) ≤ 100 := by omega
  obtain ⟨W0, hW0, A0, B0, -⟩ := boxed w 25 #[]
  have C0 : Cpy W0 w.heap.size (.slice (some ⟨w.heap.size, 0, none⟩) 0 0) 0 (fun _ => undef) n f := ⟨⟨rfl, .inr ⟨w.heap.size, 0, #[], rfl, Nat.le_refl _, A0, Nat.le_refl _, Nat.zero_le _, rfl, rfl⟩⟩, nn_someS _ _ _, fun i hi => by omega⟩
  have hbo : ∀ w, (Instr.buildSlice 24 0 #[]).run Try.prog w = .ok (.slice (some ⟨w.heap.size, 0, none⟩) 0 0) (w.alloc (.cells #[] 25)) := fun _ => by kernel_rfl
  clear A0
  go_enter Try.func13, Try.ntmps13
  go_wp2
  clear hW0
  go_loopw [3, 4] (fun s t wr => ∃ (k : Nat) (V : Nat → Value), k ≤ N ∧ t = .int .i64 (k : Int) ∧ Cpy wr w.heap.size s k V n f ∧ Below w.heap.size w wr) (fun _ t _ => N - (intOf t).toNat)
  case atStart => exact ⟨0, _, Nat.zero_le _, rfl, C0, B0⟩
  case round =>
    clear C0 B0
    obtain ⟨k, V, hk, rfl, C, B⟩ := hrel
    by_cases hlt : k < N
    · have hlt' : (k : Int) < (N : Int) := by omega
      have c0 := (hS.below B).open hlt
      obtain ⟨gk, hgk, hgl⟩ := (hA.below B) k hlt
      have hI := intsL ((hS.below B).src k hlt) hgk
      rw [hgk] at c0
      go_wp2_with fail
      refine (intsC_any hI hgl (by have := hn k hlt; omega)).mono ?_
      rintro e w2 ⟨gn, cn, rfl, hge, hnc, ⟨cur, hat, hsz, hcell⟩, bb⟩
      replace C := C.below bb
      replace B := B.trans (bb.mono B.size)
      clear bb c0 hI hgl hge
      obtain ⟨nk, hnk⟩ : ∃ nk, n k = nk := ⟨_, rfl⟩
      rw [hnk] at hcell hnc ⊢
      obtain ⟨V8, hV8, A8, b8, -⟩ := boxed w2 25 #[.slice (some ⟨gn, 0, none⟩) nk cn]
      have C8 := C.below b8
      have hat8 := hat.below b8
      have B8 := B.trans (b8.mono B.size)
      have hkk : w.heap.size ≤ V8.heap.size := B8.size
      obtain ⟨g8, hg8⟩ : ∃ g, w2.heap.size = g := ⟨_, rfl⟩
      rw [hg8] at A8
      have hb8 : ∀ w, (Instr.buildSlice 24 1 #[(0, .slice (some ⟨gn, 0, none⟩) nk cn)]).run Try.prog w = .ok (.slice (some ⟨w.heap.size, 0, none⟩) 1 1) (w.alloc (.cells #[.slice (some ⟨gn, 0, none⟩) nk cn] 25)) := fun _ => by kernel_rfl
      clear b8 C B hat
      go_wp2_with (at_builtin; refine wpList_append_own_at _ rfl _ _ _ rfl w.heap.size 25 i1 _ 1 24 Try.underlying24 hi1 hy0 hy1 hy2 rfl (by omega) u3 k (vCells V k) rfl C8.row ⟨g8, 0, none⟩ 1 1 [.slice (some ⟨gn, 0, none⟩) nk cn] rfl rfl (newsL A8) (by intro u hu; simp at hu; subst hu; rfl) (by unfold maxLen; omega) (by omega) hkk ?_; intro v3 w17 hown3 hgrow3 hne3 hat3; refine Hid.out (?_ : Hid _))
      rw [← hnk] at hown3 hcell
      have C4 := C8.push hat8 hcell hown3 hgrow3 hne3
      have B4 : Below w.heap.size w w17 := Below.grown B8 hgrow3 B8.size (fun j hj => (own_ge C8.row hj).1)
      clear hown3 hgrow3 hne3 hat3 A8 hV8 C8 hat8 hcell B8 hb8 hkk hg8
      refine (?_ : wpList _ _ _ _ _ _)
      go_wp2
      exact ⟨⟨k + 1, _, by omega, by go_num, C4, B4⟩, by simp [intOf]; omega⟩
    · have hlt' : ¬ (k : Int) < (N : Int) := by omega
      obtain rfl : N = k := by omega
      obtain ⟨g, cp, a', c', rfl, hl⟩ := C.read
      go_wp2
      exact bodyPost_ret (v := .slice (some ⟨g, 0, none⟩) N cp) (by simp [results, Try.results13, go_sem]) rfl ⟨g, cp, a', c', rfl, hl, B⟩
end Go.Proofs.Ytcpeaenophaphaa
