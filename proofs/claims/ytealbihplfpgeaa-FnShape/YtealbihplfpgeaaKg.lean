/-
  slices.SortFunc at a gathered list of corners.
-/
import Derived.Test.YtealbihplfpgeaaKf
namespace Go.Proofs.Ytealbihplfpgeaa
open Go.RowKit Go.Shelf Go.Sort

theorem tris_at (f : Nat → Int) (n : Nat) (d : Array (Ck f n)) [Inhabited (Ck f n)] {t : Nat} (ht : t < d.size * 3) : (lCells (tris f (d.toList.map (·.1))))[t]? = some ((ek f n d[t / 3]!)[t % 3]!) := by
  have hj : t / 3 < (d.toList.map (·.1)).length := by simp; omega
  have hj' : t / 3 < d.size := by omega
  obtain ⟨c0, c1, c2⟩ := tris_get f (d.toList.map (·.1)) (t / 3) hj
  have e : (d.toList.map (·.1))[t / 3] = (d[t / 3]!).1 := by simp [hj']
  rw [e] at c0 c1 c2
  have hlen : t < (tris f (d.toList.map (·.1))).length := by rw [tris_len]; simpa using ht
  have e1 : (lCells (tris f (d.toList.map (·.1))))[t]? = some (.int .i64 ((tris f (d.toList.map (·.1))).getD t 0)) := by
    rw [lCells, List.getElem?_map, List.getD_eq_getElem?_getD, List.getElem?_eq_getElem hlen]
    rfl
  rw [e1]
  rcases (by omega : t % 3 = 0 ∨ t % 3 = 1 ∨ t % 3 = 2) with r | r | r
  · rw [show t = t / 3 * 3 by omega, c0]; simp [ek, gX]
  · rw [show t = t / 3 * 3 + 1 by omega, c1, show (t / 3 * 3 + 1) / 3 = t / 3 by omega, show (t / 3 * 3 + 1) % 3 = 1 by omega]; simp [ek, gY]
  · rw [show t = t / 3 * 3 + 2 by omega, c2, show (t / 3 * 3 + 2) / 3 = t / 3 by omega, show (t / 3 * 3 + 2) % 3 = 2 by omega]; simp [ek, gD]
theorem holds_gat {n : Nat} {f : Nat → Int} [Inhabited (Ck f n)] {w0 w : World} {B g m c : Nat} {d : Array (Ck f n)} (s : Gat w0 w B 33 3 (.slice (some ⟨g, 0, none⟩) m c) m (tris f (d.toList.map (·.1)))) (hd : d.size = m) : HoldsK (ek f n) 3 w g 0 d := by
  rcases s.own.2 with ⟨h1, _⟩ | ⟨g', c', cur, e, hb, hh, hc1, hc2, hsz, ht⟩
  · cases h1
  cases e
  intro t ht2
  rw [size_flatK] at ht2
  rw [get_flatK _ _ _ _ ht2]
  have hg := tris_at f n d ht2
  rw [← ht, List.getElem?_take_of_lt (by omega)] at hg
  constructor
  · simp only [World.cell?, hh, Nat.zero_add]
    simpa using hg
  · simp [World.frozen?, hh]
theorem sorted_gat {n : Nat} {f : Nat → Int} [Inhabited (Ck f n)] {w0 w : World} {B g m c k : Nat} {l : List Int} {d' : Array (Ck f n)} {os : Array Obj} (s : Gat w0 w B 33 3 (.slice (some ⟨g, 0, none⟩) m c) m l) (hs : d'.size = m) :
    Gat w0 (sortWorldK (ek f n) 3 w g 0 k d' os) B 33 3 (.slice (some ⟨g, 0, none⟩) m c) m (tris f (d'.toList.map (·.1))) ∧ w.grownBy (sortWorldK (ek f n) 3 w g 0 k d' os) (some g) := by
  rcases s.own.2 with ⟨h1, _⟩ | ⟨g', c', cur, e, hb, hh, hc1, hc2, hsz, ht⟩
  · cases h1
  cases e
  have hlt : g < w.heap.size := (Array.getElem?_eq_some_iff.1 hh).1
  have hg : (sortWorldK (ek f n) 3 w g 0 k d' os).heap[g]? = some (.cells (putCells id 0 (flatK (ek f n) 3 d') cur) 33 (0, 0)) := by
    unfold sortWorldK grow putRowK putRow mapBlock Go.Sort.ahead
    dsimp only
    rw [Array.getElem?_append_left (by simpa using hlt), Array.getElem?_modify, hh]
    simp [onCells]
  have gr : w.grownBy (sortWorldK (ek f n) 3 w g 0 k d' os) (some g) := by
    refine ⟨rfl, rfl, rfl, ?_, fun k hk hne => ?_⟩
    · unfold sortWorldK grow putRowK putRow mapBlock Go.Sort.ahead
      simp
    · unfold sortWorldK grow putRowK putRow mapBlock Go.Sort.ahead
      dsimp only
      rw [Array.getElem?_append_left (by simpa using hk), Array.getElem?_modify, if_neg (fun e => hne (by rw [e]))]
  have Bg : Below B w (sortWorldK (ek f n) 3 w g 0 k d' os) := Below.grown (Below.refl _ _) gr s.o3 (fun x hx => by cases hx; exact hb)
  have hl2 : (lCells (tris f (d'.toList.map (·.1)))).length = m * 3 := by rw [lCells, List.length_map, tris_len]; simp [hs]
  refine ⟨⟨⟨hl2, .inr ⟨g, c, _, rfl, hb, hg, hc1, hc2, by simpa [putCells] using hsz, ?_⟩⟩, s.nn, s.b.trans (Bg.mono s.o2), s.o2, Nat.le_trans s.o3 gr.size⟩, gr⟩
  apply List.ext_getElem?
  intro t
  by_cases ht2 : t < m * 3
  · have hi : t / 3 < m := by omega
    have hk := tris_at f n d' (t := t) (by omega)
    rw [hk, List.getElem?_take_of_lt ht2]
    have hl : t < cur.size := by have := Nat.mul_le_mul_right 3 hc1; omega
    have hsf : (flatK (ek f n) 3 d').size = m * 3 := by rw [size_flatK, hs]
    have hfl := get_flatK (ek f n) 3 d' t (by rw [hs]; exact ht2)
    simp only [putCells, Array.getElem?_toList, Array.getElem?_mapIdx, Array.getElem?_eq_getElem hl, Option.map_some]
    rw [if_pos ⟨Nat.zero_le _, by omega⟩, Nat.sub_zero, hfl]
    rfl
  · rw [List.getElem?_eq_none (by simp; omega), List.getElem?_eq_none (by rw [hl2]; omega)]
/-- None is seen ahead of one that stands before it. -/
def Seen (f : Nat → Int) (o : Nat × Nat) (l : List (Nat × Nat)) : Prop := l.Pairwise fun a b => ¬ cf f o b a < 0
/-- What the sort leaves. -/
def SortedC (f : Nat → Int) (o : Nat × Nat) (w0 w w' : World) (B : Nat) (v : Value) (m : Nat) (l : List (Nat × Nat)) : Prop :=
  ∃ l', l'.Perm l ∧ Seen f o l' ∧ Gat w0 w' B 33 3 v m (tris f l') ∧ w.grownBy w' v.ownBlock
theorem keys_of {n : Nat} {f : Nat → Int} : ∀ {l : List (Nat × Nat)}, (∀ p ∈ l, p ∈ allP f n n) → ∃ d : List (Ck f n), d.map (fun x => x.1) = l
  | [], _ => ⟨[], rfl⟩
  | p :: l, h => by
    obtain ⟨d, hd⟩ := keys_of (l := l) (fun x hx => h x (List.mem_cons_of_mem _ hx))
    exact ⟨(⟨p, h p List.mem_cons_self⟩ : Ck f n) :: d, congrArg (List.cons p) hd⟩
theorem sort_gat {n : Nat} {f : Nat → Int} (S : SOk n f) {o : Nat × Nat} (ho : o ∈ allP f n n) {w0 w : World} {B q g c m : Nat} {l : List (Nat × Nat)} (s : Gat w0 w B 33 3 (.slice (some ⟨g, 0, none⟩) m c) m (tris f l)) (hl : ∀ p ∈ l, p ∈ allP f n n) (hm : m ≤ 1600)
    (hq : At 33 w q #[.int .i64 (gX f o), .int .i64 (gY f o), .int .i64 (gD f o)]) (hne : q ≠ g) :
    Calls Try.prog 37 #[.slice (some ⟨g, 0, none⟩) m c, .func (.func 68) #[] #[.pointer (some ⟨q, 0, none⟩)]] w fun e w' => e = .returned (.tuple #[]) ∧ SortedC f o w0 w w' B (.slice (some ⟨g, 0, none⟩) m c) m l := by
  letI : Inhabited (Ck f n) := ⟨⟨o, ho⟩⟩
  obtain ⟨dl, hdl⟩ := keys_of hl
  obtain ⟨d, hd⟩ : ∃ d : Array (Ck f n), d.toList.map (·.1) = l := ⟨dl.toArray, hdl⟩
  have hlen := s.len
  rw [tris_len] at hlen
  have hz : d.size = m := by rw [← hd] at hlen; simp at hlen; omega
  rw [← hd] at s
  have eg : ∀ args w, (callFunc 68 args).run Try.prog w = .ok (.enter 68 args) w := enters_of Try.func68 (by kernel_rfl) rfl
  have hlt : g < w.heap.size := by
    rcases s.own.2 with ⟨h1, _⟩ | ⟨g', c', cur, e, hb, hh, _⟩
    · cases h1
    · cases e; exact (Array.getElem?_eq_some_iff.1 hh).1
  have hr := AnyQ.slices_SortFunc sortL 3 Try.isAgg33 Try.sizeOf33 (ek f n) (fun _ => rfl) (fun x v hv => by simp [ek] at hv; rcases hv with rfl | rfl | rfl <;> rfl) (cfk f n o) (S.swo ho) 68 #[.pointer (some ⟨q, 0, none⟩)] g 0 c d w eg (cornerLays S ho hq hne) (holds_gat s hz) hlt (by omega)
  rw [hz] at hr
  refine hr.mono ?_
  rintro e w' ⟨rfl, d', k, os, hp, hso, rfl⟩
  have hd' : d'.size = m := by rw [hp.1, hz]
  obtain ⟨h1, h2⟩ := sorted_gat (k := k) (os := os) s hd'
  refine ⟨rfl, d'.toList.map (·.1), ?_, ?_, h1, h2⟩
  · rw [← hd]
    have := hp.2.2
    have e1 : d'.extract 0 m = d' := by rw [← hd']; exact Array.extract_size
    have e2 : d.extract 0 m = d := by rw [← hz]; exact Array.extract_size
    rw [e1, e2] at this
    exact this.map _
  · unfold Seen
    rw [List.pairwise_map, List.pairwise_iff_getElem]
    intro i j hi hj hij
    have hj' : j < m := by simpa [hd'] using hj
    have hi' : i < m := by omega
    have h3 := hso i j (Nat.zero_le _) hij hj'
    unfold ltOf cfk at h3
    rw [decide_eq_false_iff_not] at h3
    simpa [hd', hj', hi'] using h3
end Go.Proofs.Ytealbihplfpgeaa
