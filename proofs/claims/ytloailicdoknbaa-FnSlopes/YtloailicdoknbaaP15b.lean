/-
  The elements of a tape, gathered: walked.
-/
import Derived.Test.YtloailicdoknbaaP15a
import Derived.Laws.AppendOwn
import Derived.ArgAppend
namespace Go.Proofs.Ytloailicdoknbaa
open Go.RowKit

/-- A list of values gathered by append. -/
structure Gv (w0 w : World) (B : Nat) (t : TypeId) (v : Value) (m : Nat) (l : List Value) : Prop where
  own : w.ownsRow B t 1 v m l
  nn : v ≠ .slice none 0 0
  b : Below w0.heap.size w0 w
  o2 : w0.heap.size ≤ B
  o3 : B ≤ w.heap.size
theorem gv_ge {w : World} {base : Nat} {e : TypeId} {size : Nat} {v : Value} {n : Nat} {xs : List Value} (h : w.ownsRow base e size v n xs) {j : Nat} (hj : v.ownBlock = some j) : base ≤ j := by
  rcases h.2 with ⟨rfl, _⟩ | ⟨g, c, cur, rfl, hb, _⟩
  · cases hj
  · cases hj
    exact hb
theorem gv_below {w w' : World} {B : Nat} {e : TypeId} {k : Nat} {v : Value} {n : Nat} {xs : List Value} (h : w.ownsRow B e k v n xs) (hb : Below w.heap.size w w') : w'.ownsRow B e k v n xs := by
  refine ⟨h.1, h.2.imp id ?_⟩
  rintro ⟨g, c, cur, e1, e2, e3, e4⟩
  exact ⟨g, c, cur, e1, e2, (hb.block g (Array.getElem?_eq_some_iff.1 e3).1).trans e3, e4⟩
theorem Gv.below {w0 w w' : World} {B : Nat} {t : TypeId} {v : Value} {m : Nat} {l : List Value} (s : Gv w0 w B t v m l) (hb : Below w.heap.size w w') : Gv w0 w' B t v m l :=
  ⟨gv_below s.own hb, s.nn, s.b.trans (hb.mono s.b.size), s.o2, Nat.le_trans s.o3 hb.size⟩
theorem Gv.grow {w0 w w' : World} {B : Nat} {t : TypeId} {v v' : Value} {m m' : Nat} {l l' : List Value} (s : Gv w0 w B t v m l) (h1 : w'.ownsRow B t 1 v' m' (l ++ l')) (hg : w.grownBy w' v.ownBlock) (hv : v' ≠ .slice none 0 0) : Gv w0 w' B t v' m' (l ++ l') := by
  have Bg : Below B w w' := Below.grown (Below.refl _ _) hg s.o3 (fun _ hx => gv_ge s.own hx)
  exact ⟨h1, hv, s.b.trans (Bg.mono s.o2), s.o2, Nat.le_trans s.o3 hg.size⟩
theorem Gv.keep {w0 w w' : World} {B : Nat} {t : TypeId} {v : Value} {m : Nat} {l : List Value} (h : Gv w0 w B t v m l) (hg : w.grownBy w' v.ownBlock) : Below B w w' := Below.grown (Below.refl _ _) hg h.o3 (fun _ hx => gv_ge h.own hx)
theorem Gv.open {w0 w : World} {B : Nat} {t : TypeId} {v : Value} {m : Nat} {l : List Value} (s : Gv w0 w B t v m l) : ∃ g c, v = .slice (some ⟨g, 0, none⟩) m c ∧ B ≤ g ∧ m ≤ c ∧ g < w.heap.size ∧ l.length = m ∧ ∀ (i : Nat) (u : Value), l[i]? = some u → w.cell? ⟨g, i, none⟩ = some u := by
  rcases s.own.2 with ⟨e, _⟩ | ⟨g, c, cur, e, hb, hh, hc1, hc2, hsz, ht⟩
  · exact absurd e s.nn
  · have hl := s.own.1
    refine ⟨g, c, e, hb, hc1, (Array.getElem?_eq_some_iff.1 hh).1, by omega, fun i u hi => ?_⟩
    have hlt := (List.getElem?_eq_some_iff.1 hi).1
    rw [← ht] at hi
    rw [List.getElem?_take_of_lt (by omega)] at hi
    simpa [World.cell?, hh] using hi
/-- The elements lie in block g. -/
def ElAt (w : World) (g n : Nat) (el : Nat → Value) : Prop := g < w.heap.size ∧ ∀ i, i < n → w.cell? ⟨g, i, none⟩ = some (el i)
theorem ElAt.below {w w' : World} {g n : Nat} {el : Nat → Value} (h : ElAt w g n el) (hb : Below w.heap.size w w') : ElAt w' g n el := ⟨Nat.lt_of_lt_of_le h.1 hb.size, fun i hi => (hb.cell (p := ⟨g, i, none⟩) h.1).trans (h.2 i hi)⟩
def els (inp : Int) (f : Nat → Int) (i : Nat) : Value := elV inp (f (i * 3)) (f (i * 3 + 1)) (f (i * 3 + 2))
theorem elV_iface (inp op a b : Int) : ∃ t x, elV inp op a b = .iface t x := by
  unfold elV
  split
  · exact ⟨_, _, rfl⟩
  split
  · exact ⟨_, _, rfl⟩
  split
  · exact ⟨_, _, rfl⟩
  split
  · exact ⟨_, _, rfl⟩
  · exact ⟨_, _, rfl⟩
theorem infoEl : (Try.prog.info? 62).map (fun i => (i.zero, i.size, i.bytes)) = some (some .nilIface, 1, 16) := by kernel_rfl
theorem news1 {w : World} {t : TypeId} {g : Nat} {x : Value} (h : At t w g #[x]) : ∀ (j : Nat) (u : Value), [x][j]? = some u → w.cell? ((⟨g, 0, none⟩ : Addr).add j) = some u := by
  intro j u hu
  rcases j with _ | j
  · simp at hu; subst hu; exact h.cell 0 rfl
  · simp at hu
/-- What is told of a tape: its elements, or nothing. -/
def EsP (w : World) (n : Nat) (inp : Int) (f : Nat → Int) (e : Ending) (w' : World) : Prop :=
  ((¬ TpOk n inp f ∧ e = .returned (.tuple #[.slice none 0 0, .bool false])) ∨ (TpOk n inp f ∧ ∃ g c, e = .returned (.tuple #[.slice (some ⟨g, 0, none⟩) n c, .bool true]) ∧ w.heap.size ≤ g ∧ n ≤ c ∧ ElAt w' g n (els inp f))) ∧ Below w.heap.size w w'
set_option maxRecDepth 100000 in
set_option maxHeartbeats 1600000 in
theorem elementsOf_any {w : World} {g n cap : Nat} {f : Nat → Int} (inp : Int) (h : Recs 3 w g n f) (hn : n ≤ 1048576) :
    Calls Try.prog 53 #[.slice (some ⟨g, 0, none⟩) n cap, .int .i64 inp] w (EsP w n inp f) := by
  by_cases hn60 : n ≤ 200
  case neg =>
    have hn' : (200 : Int) < (n : Int) := by omega
    go_enter Try.func53, Try.ntmps53
    go_wp2
    exact bodyPost_ret (v := .tuple #[.slice none 0 0, .bool false]) (by simp [results, Try.results53, go_sem]) rfl ⟨.inl ⟨fun k => hn60 k.1, rfl⟩, Below.refl _ _⟩
  have hn' : (n : Int) ≤ 200 := by omega
  have hn2 : ¬ (200 : Int) < (n : Int) := by omega
  by_cases h0 : inp < 0
  · go_enter Try.func53, Try.ntmps53
    go_wp2
    exact bodyPost_ret (v := .tuple #[.slice none 0 0, .bool false]) (by simp [results, Try.results53, go_sem]) rfl ⟨.inl ⟨fun k => by have := k.2.1; omega, rfl⟩, Below.refl _ _⟩
  by_cases h1 : 20 < inp
  · go_enter Try.func53, Try.ntmps53
    go_wp2
    exact bodyPost_ret (v := .tuple #[.slice none 0 0, .bool false]) (by simp [results, Try.results53, go_sem]) rfl ⟨.inl ⟨fun k => by have := k.2.1; omega, rfl⟩, Below.refl _ _⟩
  have hbs : ∀ w, (Instr.buildSlice 54 0 #[]).run Try.prog w = .ok (.slice (some ⟨w.heap.size, 0, none⟩) 0 0) (w.alloc (.cells #[] 62)) := fun _ => by kernel_rfl
  have hb1 : ∀ (t : TypeId) (x : Value) w, (Instr.buildSlice 54 1 #[(0, .iface t x)]).run Try.prog w = .ok (.slice (some ⟨w.heap.size, 0, none⟩) 1 1) (w.alloc (.cells #[.iface t x] 62)) := fun _ _ _ => by kernel_rfl
  obtain ⟨i0, hi0, hz0, hz1, hz2⟩ := info_parts infoEl
  obtain ⟨W1, hW1, a1, bb1, -⟩ := boxed w 62 #[]
  have hlt := a1.lt
  have G1 : Gv w W1 w.heap.size 62 (.slice (some ⟨w.heap.size, 0, none⟩) 0 0) 0 [] := ⟨⟨rfl, .inr ⟨_, 0, #[], rfl, Nat.le_refl _, a1, Nat.le_refl _, Nat.zero_le _, rfl, rfl⟩⟩, by simp, bb1, Nat.le_refl _, bb1.size⟩
  have R1 := h.below bb1
  have hgw : g < w.heap.size := h.1
  go_enter Try.func53, Try.ntmps53
  go_wp2
  clear hW1 a1 bb1 hlt
  go_loopw [6, 25] (fun s u wr => ∃ k : Nat, k ≤ n ∧ u = .int .i64 (k : Int) ∧ Gv w wr w.heap.size 62 s k ((List.range k).map (els inp f)) ∧ (∀ i : Nat, i < k → stOk inp (i : Int) (f (i * 3)) (f (i * 3 + 1)) (f (i * 3 + 2))) ∧ Recs 3 wr g n f) (fun _ u _ => n - (intOf u).toNat)
  case atStart => exact ⟨0, Nat.zero_le _, rfl, G1, fun i hi => by omega, R1⟩
  case round =>
    clear G1 R1
    obtain ⟨k, hk, rfl, G1, hall, R1⟩ := hrel
    have HA : Hid (∀ i : Nat, i < k → stOk inp (i : Int) (f (i * 3)) (f (i * 3 + 1)) (f (i * 3 + 2))) := hall
    clear hall
    by_cases hkn : k < n
    · have hkn' : (k : Int) < (n : Int) := by omega
      obtain ⟨d0, d1, d2⟩ := Step.open R1 k hkn
      obtain ⟨V1, hV1, m1, bb1, -⟩ := boxed wr 46 #[.int .i64 (f (k * 3)), .int .i64 (f (k * 3 + 1)), .int .i64 (f (k * 3 + 2))]
      obtain ⟨r1, hr1⟩ : ∃ r, wr.heap.size = r := ⟨_, rfl⟩
      rw [hr1] at m1
      have G2 := G1.below bb1
      have R2 := R1.below bb1
      obtain ⟨c0, c1, c2, -⟩ := m1.open3
      clear m1 bb1 G1 R1
      by_cases hs : stOk inp (k : Int) (f (k * 3)) (f (k * 3 + 1)) (f (k * 3 + 2))
      case neg =>
        have E := fun w => element_any inp (k : Int) (f (k * 3)) (f (k * 3 + 1)) (f (k * 3 + 2)) w false (show (false = true ↔ _) from ⟨fun h => by simp at h, fun h => absurd h hs⟩) (by omega) (by omega)
        have HS : Hid (¬ TpOk n inp f) := fun t => hs (t.2.2 k hkn)
        clear hs
        go_wp2_with (go_at_call 61; refine (E _).mono ?_; rintro e w2 ⟨⟨v, rfl, -⟩, bb⟩)
        exact bodyPost_ret (v := .tuple #[.slice none 0 0, .bool false]) (by simp [results, Try.results53, go_sem]) rfl ⟨.inl ⟨HS.out, rfl⟩, (G2.below bb).b⟩
      have E := fun w => element_any inp (k : Int) (f (k * 3)) (f (k * 3 + 1)) (f (k * 3 + 2)) w true (show (true = true ↔ _) from ⟨fun _ => hs, fun _ => rfl⟩) (by omega) (by omega)
      have HS : Hid (stOk inp (k : Int) (f (k * 3)) (f (k * 3 + 1)) (f (k * 3 + 2))) := hs
      clear hs
      obtain ⟨gg, cc, rfl, -⟩ := G2.open
      go_wp2_with fail
      refine (E _).mono ?_
      rintro e w2 ⟨⟨v, rfl, hv⟩, bb⟩
      obtain rfl := hv rfl
      obtain ⟨t5, x5, ht5⟩ := elV_iface inp (f (k * 3)) (f (k * 3 + 1)) (f (k * 3 + 2))
      have HT5 : Hid (els inp f k = .iface t5 x5) := ht5
      rw [ht5]
      have G3 := G2.below bb
      have R3 := R2.below bb
      clear G2 R2 bb hv E c0 c1 c2 d0 d1 d2 ht5 hV1 hr1
      obtain ⟨V9, hV9, A9, b10, -⟩ := boxed w2 62 #[.iface t5 x5]
      obtain ⟨g9, hg9⟩ : ∃ g, w2.heap.size = g := ⟨_, rfl⟩
      rw [hg9] at A9
      have G4 := G3.below b10
      have R4 := R3.below b10
      have hkk := G4.o3
      clear b10 G3 R3
      go_wp2_with (at_builtin; refine wpList_append_own _ rfl _ _ _ rfl w.heap.size 62 i0 _ 1 16 Try.underlying54 hi0 hz0 hz1 hz2 rfl (by omega) (.slice (some ⟨gg, 0, none⟩) k cc) k ((List.range k).map (els inp f)) rfl G4.own ⟨g9, 0, none⟩ 1 1 [.iface t5 x5] rfl rfl (news1 A9) (by simp [Value.oneCell']) (by unfold maxLen; omega) (by omega) hkk ?_; intro v2 w16 hown2 hgrow2 hne2)
      have G5 := G4.grow hown2 hgrow2 (fun h => by have := hne2.1 h; simp at this)
      have B5 := G4.keep hgrow2
      have R5 : Recs 3 w16 g n f := ⟨Nat.lt_of_lt_of_le R4.1 hgrow2.size, fun i hi => (B5.cell (p := ⟨g, i, none⟩) hgw).trans (R4.2 i hi)⟩
      refine ⟨⟨k + 1, by omega, by go_num, ?_, fun i hi => ?_, R5⟩, by simp [intOf]; omega⟩
      · rw [List.range_succ, List.map_append, List.map_singleton, HT5.out]
        exact G5
      · by_cases e : i = k
        · subst e; exact HS.out
        · exact HA.out i (by omega)
    · have hkn' : ¬ (k : Int) < (n : Int) := by omega
      obtain rfl : k = n := by omega
      obtain ⟨gg, cc, rfl, o1, o2, o3, o4, o5⟩ := G1.open
      have OK : TpOk k inp f := ⟨hn60, by omega, HA.out⟩
      have EA : ElAt wr gg k (els inp f) := ⟨o3, fun i hi => o5 i _ (by simp [hi])⟩
      clear o5
      go_wp2
      exact bodyPost_ret (v := .tuple #[.slice (some ⟨gg, 0, none⟩) k cc, .bool true]) (by simp [results, Try.results53, go_sem]) rfl ⟨.inr ⟨OK, gg, cc, rfl, o1, o2, EA⟩, G1.b⟩
end Go.Proofs.Ytloailicdoknbaa
