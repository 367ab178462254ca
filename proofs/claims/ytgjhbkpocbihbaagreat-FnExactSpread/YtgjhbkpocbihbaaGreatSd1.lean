/-
  What Spread tells: the orbits of the atoms one behind the other, each once. No function of the program.
-/
import Derived.Test.YtgjhbkpocbihbaaGreatB17a
namespace Go.Proofs.YtgjhbkpocbihbaaGreat
open Go.RowKit

/-- An atom: where it lies, in twelfths, and what it scatters. -/
abbrev A4 := Int × Int × Int × Int
def ptA (a : A4) : T3 := (2 * a.1, 2 * a.2.1, 2 * a.2.2.1)
def atP (p : T3) (f : Int) : A4 := (p.1.tdiv 2, p.2.1.tdiv 2, p.2.2.tdiv 2, f)
/-- On twelfths. -/
def evT (p : T3) : Prop := p.1 % 2 = 0 ∧ p.2.1 % 2 = 0 ∧ p.2.2 % 2 = 0
theorem half_even {x : Int} (h0 : 0 ≤ x) (h : x % 2 = 0) : 2 * x.tdiv 2 = x := by
  rw [Int.tdiv_eq_ediv_of_nonneg h0]
  omega
theorem ptA_atP {p : T3} (hi : inT p) (h : evT p) (f : Int) : ptA (atP p f) = p := by
  obtain ⟨⟨x0, -⟩, ⟨y0, -⟩, ⟨z0, -⟩⟩ := hi
  exact Prod.ext (half_even x0 h.1) (Prod.ext (half_even y0 h.2.1) (half_even z0 h.2.2))
theorem atP_ptA (a : A4) : atP (ptA a) a.2.2.2 = a := by
  obtain ⟨x, y, z, f⟩ := a
  have e : ∀ x : Int, (2 * x).tdiv 2 = x := fun x => Int.mul_tdiv_cancel_left x (by decide)
  show ((2 * x).tdiv 2, (2 * y).tdiv 2, (2 * z).tdiv 2, f) = (x, y, z, f)
  rw [e, e, e]
theorem evT_ptA (a : A4) : evT (ptA a) := ⟨by show 2 * a.1 % 2 = 0; omega, by show 2 * a.2.1 % 2 = 0; omega, by show 2 * a.2.2.1 % 2 = 0; omega⟩
theorem even_act {k : Nat → Int} (he : ∀ i, i < 3 → kh k i % 2 = 0) {p : T3} (hp : evT p) : evT (aK k p) := by
  obtain ⟨x, y, z⟩ := p
  have e : ∀ u : Int, u % 2 = 0 → ∀ f : Int, ∃ v, f * u = 2 * v := fun u hu f => ⟨f * (u / 2), by
    rw [← Int.mul_assoc, Int.mul_comm 2 f, Int.mul_assoc]
    congr 1
    omega⟩
  have c : ∀ i, i < 3 → actV k (kh k) (p3 x y z) i % 2 = 0 := fun i hi => by
    unfold actV
    rw [movV_at]
    obtain ⟨a, ea⟩ := e x hp.1 (k (3 * i))
    obtain ⟨b, eb⟩ := e y hp.2.1 (k (3 * i + 1))
    obtain ⟨d, ed⟩ := e z hp.2.2 (k (3 * i + 2))
    rw [show p3 x y z 0 = x from rfl, show p3 x y z 1 = y from rfl, show p3 x y z 2 = z from rfl, ea, eb, ed]
    have := he i hi
    omega
  exact ⟨c 0 (by omega), c 1 (by omega), c 2 (by omega)⟩
/-- All shifts even. -/
def evG (n : Nat) (A : Nat → OpD) : Prop := ∀ i, i < n → ∀ j, j < 3 → (A i).h j % 2 = 0
theorem orb_even {n m : Nat} {A : Nat → OpD} {F : Nat → T3} {p : T3} (hE : evG n A) (hp : evT p) (hI : OrbI (orbP A p.1 p.2.1 p.2.2) n m F) {t : Nat} (ht : t < m) : evT (F t) := by
  obtain ⟨j, hj, e⟩ := hI.of t ht
  rw [e, orbP_aK]
  exact even_act (fun i hi => by show (A j).key (9 + i) % 2 = 0; rw [key_hi]; exact hE j hj i hi) hp
/-- A point lies in its own orbit. -/
theorem orb_self {n m : Nat} {A : Nat → OpD} {F : Nat → T3} {p : T3} (hG : isG n A) (hp : inT p) (hI : OrbI (orbP A p.1 p.2.1 p.2.2) n m F) : ∃ t, t < m ∧ F t = p := by
  obtain ⟨j, hj, e⟩ := hG.one
  obtain ⟨t, ht, e2⟩ := hI.has j hj
  refine ⟨t, ht, ?_⟩
  rw [e2, orbP_aK]
  show aK (A j).key p = p
  rw [aK_congr e, aK_one hp]
/-- The list behind the first i atoms. -/
def SpL (n : Nat) (A : Nat → OpD) (a : Nat → A4) : Nat → List A4 → Prop
  | 0, l => l = []
  | i + 1, l => ∃ l0, SpL n A a i l0 ∧ (a i ∈ l0 ∧ l = l0 ∨ a i ∉ l0 ∧ ∃ m F, OrbI (orbP A (ptA (a i)).1 (ptA (a i)).2.1 (ptA (a i)).2.2) n m F ∧ l = l0 ++ (List.range m).map (fun t => atP (F t) (a i).2.2.2))
theorem range_congr {m : Nat} {F F' : Nat → T3} {f : Int} (h : ∀ t, t < m → F t = F' t) : (List.range m).map (fun t => atP (F t) f) = (List.range m).map (fun t => atP (F' t) f) :=
  List.map_congr_left (fun t ht => by rw [h t (List.mem_range.1 ht)])
theorem SpL.same {n : Nat} {A : Nat → OpD} {a : Nat → A4} : ∀ {i : Nat} {l l' : List A4}, SpL n A a i l → SpL n A a i l' → l = l'
  | 0, _, _, h, h' => by
    have e1 : _ = [] := h
    have e2 : _ = [] := h'
    rw [e1, e2]
  | i + 1, l, l', ⟨l0, h, c⟩, ⟨l0', h', c'⟩ => by
    obtain rfl := h.same h'
    rcases c with ⟨c1, c2⟩ | ⟨c1, m, F, hI, c2⟩ <;> rcases c' with ⟨c1', c2'⟩ | ⟨c1', m', F', hI', c2'⟩
    · rw [c2, c2']
    · exact absurd c1 c1'
    · exact absurd c1' c1
    · obtain ⟨rfl, hF⟩ := hI.same hI'
      rw [c2, c2', range_congr hF]
theorem SpL.up {n : Nat} {A : Nat → OpD} {a : Nat → A4} {i : Nat} {l : List A4} (h : SpL n A a i l) : ∀ {j : Nat} {l' : List A4}, i ≤ j → SpL n A a j l' → l.length ≤ l'.length
  | 0, l', hij, h' => by
    obtain rfl : i = 0 := by omega
    rw [h.same h']; exact Nat.le_refl _
  | j + 1, l', hij, h' => by
    by_cases e : i = j + 1
    · subst e
      rw [h.same h']; exact Nat.le_refl _
    · obtain ⟨l0, h0, c⟩ := h'
      have := h.up (j := j) (by omega) h0
      rcases c with ⟨-, rfl⟩ | ⟨-, m, F, -, rfl⟩
      · exact this
      · rw [List.length_append]; omega
/-- With an atom its whole orbit is there. -/
def SpI (n : Nat) (A : Nat → OpD) (l : List A4) : Prop := ∀ b, b ∈ l → inT (ptA b) ∧ ∀ m F, OrbI (orbP A (ptA b).1 (ptA b).2.1 (ptA b).2.2) n m F → ∀ t, t < m → atP (F t) b.2.2.2 ∈ l
theorem SpL.inv {n : Nat} {A : Nat → OpD} {a : Nat → A4} (hG : isG n A) (hE : evG n A) {N : Nat} (ha : ∀ i, i < N → inT (ptA (a i))) : ∀ {i : Nat} {l : List A4}, i ≤ N → SpL n A a i l → SpI n A l
  | 0, l, _, h => fun b hb => by
    have e : l = [] := h
    rw [e] at hb
    cases hb
  | i + 1, l, hi, ⟨l0, h, c⟩ => by
    have I := SpL.inv hG hE ha (i := i) (by omega) h
    rcases c with ⟨-, rfl⟩ | ⟨-, m, F, hI, rfl⟩
    · exact I
    · intro b hb
      rcases List.mem_append.1 hb with hb | hb
      · exact ⟨(I b hb).1, fun m' F' h' t ht => List.mem_append_left _ ((I b hb).2 m' F' h' t ht)⟩
      · obtain ⟨t, ht, rfl⟩ := List.mem_map.1 hb
        have ht' := List.mem_range.1 ht
        obtain ⟨o1, o2⟩ := orb_of hG hI ht'
        have e := ptA_atP o1 (orb_even hE (evT_ptA (a i)) hI ht') (a i).2.2.2
        refine ⟨by rw [e]; exact o1, fun m' F' h' s hs => ?_⟩
        rw [e] at h'
        obtain ⟨rfl, hF⟩ := o2.same h'
        refine List.mem_append_right _ (List.mem_map.2 ⟨s, List.mem_range.2 hs, ?_⟩)
        show atP (F s) (a i).2.2.2 = atP (F' s) (a i).2.2.2
        rw [hF s hs]
/-- All of an atom's orbit is there, or none. -/
theorem SpI.all {n m : Nat} {A : Nat → OpD} {l : List A4} {b : A4} {F : Nat → T3} (h : SpI n A l) (hb : b ∈ l) (hI : OrbI (orbP A (ptA b).1 (ptA b).2.1 (ptA b).2.2) n m F) : ∀ t, t < m → atP (F t) b.2.2.2 ∈ l := (h b hb).2 m F hI
theorem SpI.none {n m : Nat} {A : Nat → OpD} {l : List A4} {b : A4} {F : Nat → T3} (hG : isG n A) (hE : evG n A) (h : SpI n A l) (hp : inT (ptA b)) (hb : b ∉ l) (hI : OrbI (orbP A (ptA b).1 (ptA b).2.1 (ptA b).2.2) n m F) : ∀ t, t < m → atP (F t) b.2.2.2 ∉ l := fun t ht hm => by
  obtain ⟨o1, o2⟩ := orb_of hG hI ht
  have e := ptA_atP o1 (orb_even hE (evT_ptA b) hI ht) b.2.2.2
  have a := (h _ hm).2 m F (by rw [e]; exact o2)
  obtain ⟨s, hs, es⟩ := orb_self hG hp hI
  have := a s hs
  rw [es] at this
  exact hb (by have e2 := atP_ptA b; rw [← e2]; exact this)
/-- The points of an orbit are apart. -/
theorem orb_apart {n m : Nat} {A : Nat → OpD} {b : A4} {F : Nat → T3} (hG : isG n A) (hE : evG n A) (hI : OrbI (orbP A (ptA b).1 (ptA b).2.1 (ptA b).2.2) n m F) {s t : Nat} (hs : s < m) (ht : t < m) (e : atP (F s) b.2.2.2 = atP (F t) b.2.2.2) : s = t := by
  have e1 := ptA_atP (orb_of hG hI hs).1 (orb_even hE (evT_ptA b) hI hs) b.2.2.2
  have e2 := ptA_atP (orb_of hG hI ht).1 (orb_even hE (evT_ptA b) hI ht) b.2.2.2
  exact hI.inj hs ht (by rw [← e1, ← e2, e])
/-- How Spread ends: the list, or that it is too long on the way. -/
def SpE (n N : Nat) (A : Nat → OpD) (a : Nat → A4) (ok : Prop) (l : List A4) (b : Bool) : Prop :=
  (ok ∧ b = true ∧ SpL n A a N l ∧ l.length ≤ 200) ∨ (ok ∧ b = false ∧ l = [] ∧ ∃ i l', i ≤ N ∧ SpL n A a i l' ∧ 200 < l'.length) ∨ (¬ ok ∧ b = false ∧ l = [])
theorem SpE.same {n N : Nat} {A : Nat → OpD} {a : Nat → A4} {ok : Prop} {l l' : List A4} {b b' : Bool} (h : SpE n N A a ok l b) (h' : SpE n N A a ok l' b') : l = l' ∧ b = b' := by
  rcases h with ⟨o, rfl, h1, h2⟩ | ⟨o, rfl, rfl, i, k, h1, h2, h3⟩ | ⟨o, rfl, rfl⟩ <;> rcases h' with ⟨o', rfl, h1', h2'⟩ | ⟨o', rfl, rfl, i', k', h1', h2', h3'⟩ | ⟨o', rfl, rfl⟩
  · exact ⟨h1.same h1', rfl⟩
  · have := h2'.up h1' h1; omega
  · exact absurd o o'
  · have := h2.up h1 h1'; omega
  · exact ⟨rfl, rfl⟩
  · exact absurd o o'
  · exact absurd o' o
  · exact absurd o' o
  · exact ⟨rfl, rfl⟩
end Go.Proofs.YtgjhbkpocbihbaaGreat
