/-
  Bytes of steps; lists of bytes gathered by append. No function of the program.
-/
import Derived.Test.YtfgehmcloeebkaaVa
import Derived.Test.YtfgehmcloeebkaaLa
namespace Go.Proofs.Ytfgehmcloeebkaa
open Go.RowKit

/-- A number in groups of seven bits, the lowest first. -/
def gr : Nat → Nat → List Int
  | 0, n => [(n : Int)]
  | j + 1, n => if n < 128 then [(n : Int)] else ((128 + n % 128 : Nat) : Int) :: gr j (n / 128)
theorem gr_small {j n : Nat} (h : n < 128) : gr j n = [(n : Int)] := by
  cases j with
  | zero => rfl
  | succ j => simp [gr, h]
theorem gr_big {j n : Nat} (h : ¬ n < 128) : gr (j + 1) n = ((128 + n % 128 : Nat) : Int) :: gr j (n / 128) := by simp [gr, h]
theorem gr_len (j n : Nat) : 1 ≤ (gr j n).length ∧ (gr j n).length ≤ j + 1 := by
  induction j generalizing n with
  | zero => simp [gr]
  | succ j ih =>
    by_cases h : n < 128
    · rw [gr_small h]; simp
    · rw [gr_big h]
      have := ih (n / 128)
      simp
      omega
/-- A step without its sign. -/
def fo (s : Int) : Nat := if s < 0 then (-2 * s - 1).toNat else (2 * s).toNat
theorem fo_le {s : Int} (h : -65535 ≤ s ∧ s ≤ 65535) : fo s ≤ 131070 := by
  unfold fo
  split <;> omega
/-- The pixel ahead. -/
def la (f : Nat → Int) (k : Nat) : Int := if k = 0 then 0 else f (k - 1)
/-- The bytes of the first k pixels. -/
def sqL (f : Nat → Int) : Nat → List Int
  | 0 => []
  | k + 1 => sqL f k ++ gr 2 (fo (f k - la f k))
theorem sqL_len (f : Nat → Int) (k : Nat) : (sqL f k).length ≤ 3 * k := by
  induction k with
  | zero => simp [sqL]
  | succ k ih =>
    have := (gr_len 2 (fo (f k - la f k))).2
    simp [sqL]
    omega
def bCl (l : List Int) : List Value := l.map (Value.int .u8)
theorem bCl_one (l : List Int) : ∀ u ∈ bCl l, u.oneCell' = true := by
  intro u hu
  obtain ⟨x, -, rfl⟩ := List.mem_map.1 hu
  rfl
theorem bCl_app (l l' : List Int) : bCl l ++ bCl l' = bCl (l ++ l') := by simp [bCl]
theorem bCl_len (l : List Int) : (bCl l).length = l.length := by simp [bCl]
/-- A list of bytes gathered by append. -/
structure GaB (w0 w : World) (B : Nat) (v : Value) (l : List Int) : Prop where
  own : w.ownsRow B 5 1 v l.length (bCl l)
  nn : v ≠ .slice none 0 0
  b : Below w0.heap.size w0 w
  o2 : w0.heap.size ≤ B
  o3 : B ≤ w.heap.size
theorem GaB.below {w0 w w' : World} {B : Nat} {v : Value} {l : List Int} (s : GaB w0 w B v l) (hb : Below w.heap.size w w') : GaB w0 w' B v l :=
  ⟨own_below s.own hb, s.nn, s.b.trans (hb.mono s.b.size), s.o2, Nat.le_trans s.o3 hb.size⟩
theorem GaB.grow {w0 w w' : World} {B : Nat} {v v' : Value} {l l' : List Int} {m : Nat} (s : GaB w0 w B v l) (h1 : w'.ownsRow B 5 1 v' m (bCl l ++ bCl l')) (hg : w.grownBy w' v.ownBlock) (hv : v' ≠ .slice none 0 0) : GaB w0 w' B v' (l ++ l') := by
  have Bg : Below B w w' := Below.grown (Below.refl _ _) hg s.o3 (fun x hx => ownBlock_ge s.own hx)
  have hm : m = (l ++ l').length := by
    have := h1.1
    rw [bCl_app, bCl_len] at this
    omega
  exact ⟨by rw [← bCl_app, ← hm]; exact h1, hv, s.b.trans (Bg.mono s.o2), s.o2, Nat.le_trans s.o3 hg.size⟩
theorem GaB.keepT {w0 w w' : World} {B : Nat} {s : TypeId} {q : Nat} {v : Value} {l : List Int} {vs : Array Value} (h : GaB w0 w B v l) (hg : w.grownBy w' v.ownBlock) (ha : At s w q vs) (hst : s ≠ 5) : At s w' q vs := by
  refine (hg.block q ha.lt (fun e => ?_)).trans ha
  rcases h.own.2 with ⟨e1, -⟩ | ⟨g, c, cur, rfl, hb, hh, -⟩
  · exact h.nn e1
  · simp only [Value.ownBlock, Option.some.injEq] at e
    subst e
    have h1 := ha
    unfold At at h1
    rw [hh] at h1
    simp only [Option.some.injEq, Obj.cells.injEq] at h1
    exact hst h1.2.1.symm
/-- Bytes in a block of their own. -/
def ByA (w : World) (lo hi : Nat) (v : Value) (n : Nat) (F : Nat → Int) : Prop := ∃ g c cur, v = .slice (some ⟨g, 0, none⟩) n c ∧ lo ≤ g ∧ g < hi ∧ n ≤ c ∧ n ≤ cur.size ∧ At 5 w g cur ∧ ∀ i, i < n → cur[i]? = some (.int .u8 (F i))
theorem ByA.below {w w' : World} {lo hi : Nat} {v : Value} {n : Nat} {F : Nat → Int} (h : ByA w lo hi v n F) (hb : Below w.heap.size w w') : ByA w' lo hi v n F := by
  obtain ⟨g, c, cur, e, h1, h2, h3, h4, h5, h6⟩ := h
  exact ⟨g, c, cur, e, h1, h2, h3, h4, h5.below hb, h6⟩
theorem ByA.turn {w w' : World} {lo hi a b : Nat} {v : Value} {n : Nat} {F : Nat → Int} (h : ByA w a b v n F) (ht : Turn lo hi w w') (hd : b ≤ lo ∨ hi ≤ a) : ByA w' a b v n F := by
  obtain ⟨g, c, cur, e, h1, h2, h3, h4, h5, h6⟩ := h
  exact ⟨g, c, cur, e, h1, h2, h3, h4, h5.turn ht (by omega), h6⟩
theorem GaB.bytes {w0 w : World} {B : Nat} {v : Value} {l : List Int} (s : GaB w0 w B v l) : ByA w B w.heap.size v l.length (fun i => l.getD i 0) := by
  rcases s.own.2 with ⟨e, _⟩ | ⟨g, c, cur, e, hb, hh, hc1, hc2, hsz, ht⟩
  · exact absurd e s.nn
  · refine ⟨g, c, cur, e, hb, (Array.getElem?_eq_some_iff.1 hh).1, hc1, by omega, hh, fun i hi => ?_⟩
    have a1 : (bCl l)[i]? = some (.int .u8 (l.getD i 0)) := by simp [bCl, hi]
    rw [← ht, List.getElem?_take_of_lt (by omega)] at a1
    simpa using a1
theorem ByA.cell {w : World} {lo hi g n c i : Nat} {F : Nat → Int} (h : ByA w lo hi (.slice (some ⟨g, 0, none⟩) n c) n F) (hi' : i < n) : w.cell? ⟨g, i, none⟩ = some (.int .u8 (F i)) := by
  obtain ⟨g', c', cur, e, h1, h2, h3, h4, h5, h6⟩ := h
  simp only [Value.slice.injEq, Option.some.injEq, Addr.mk.injEq] at e
  obtain ⟨⟨rfl, -, -⟩, -, rfl⟩ := e
  exact h5.cell i (h6 i hi')
theorem newsB {w : World} {t : TypeId} {g : Nat} {x : Int} (h : At t w g #[.int .u8 x]) : ∀ j u, (bCl [x])[j]? = some u → w.cell? ((⟨g, 0, none⟩ : Addr).add j) = some u := by
  intro j u hu
  rcases j with _ | j
  · simp [bCl] at hu; subst hu; exact h.cell 0 rfl
  · simp [bCl] at hu
theorem infoB : (Try.prog.info? 5).map (fun i => (i.zero, i.size, i.bytes)) = some (some (.int .u8 0), 1, 1) := by kernel_rfl
end Go.Proofs.Ytfgehmcloeebkaa
