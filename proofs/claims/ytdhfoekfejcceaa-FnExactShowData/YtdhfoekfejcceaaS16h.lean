/-
  Bytes that are gathered by append, also into a row that []byte(text) made.
-/
import Derived.Test.YtdhfoekfejcceaaS16g
import Derived.ArgAppend
import Derived.Deep.AppendLies
import Derived.Deep.Upon
import Derived.Laws.IdiomStrings
namespace Go.Proofs.Ytdhfoekfejcceaa
open Go.RowKit

def bCells (L : List UInt8) : List Value := L.map fun b => .int .u8 (b.toNat : Int)
theorem bCells_at (L : List UInt8) (j : Nat) (hj : j < L.length) : (bCells L)[j]? = some (.int .u8 (L[j].toNat : Int)) := by simp [bCells, hj]
theorem bCells_one (L : List UInt8) : ∀ u ∈ bCells L, u.oneCell' = true := by
  intro u hu
  obtain ⟨x, -, rfl⟩ := List.mem_map.1 hu
  rfl
/-- Bytes of one's own that are being gathered. -/
structure Bt (w0 w : World) (v : Value) (L : List UInt8) : Prop where
  own : ∃ g cap, v = .slice (some ⟨g, 0, none⟩) L.length cap ∧ w0.heap.size ≤ g ∧ g < w.heap.size ∧ L.length ≤ cap ∧ cap ≤ maxLen ∧ (∀ j u, (bCells L)[j]? = some u → w.cell? ⟨g, j, none⟩ = some u) ∧ ∀ j, L.length ≤ j → j < cap → (w.cell? ⟨g, j, none⟩).isSome = true ∧ w.frozen? ⟨g, j, none⟩ = false
  b : Below w0.heap.size w0 w
theorem frozen_of_block {w w' : World} {g i : Nat} (h : w'.heap[g]? = w.heap[g]?) : w'.frozen? ⟨g, i, none⟩ = w.frozen? ⟨g, i, none⟩ := by
  simp only [World.frozen?, h]
theorem Bt.below {w0 w w' : World} {v : Value} {L : List UInt8} (s : Bt w0 w v L) (hb : Below w.heap.size w w') : Bt w0 w' v L := by
  obtain ⟨⟨g, cap, e, h1, h2, h3, h3m, h4, h5⟩, h6⟩ := s
  have hk := hb.block g h2
  exact ⟨⟨g, cap, e, h1, Nat.lt_of_lt_of_le h2 hb.size, h3, h3m, fun j u hu => (cell_of_block hk).trans (h4 j u hu), fun j k1 k2 => by rw [cell_of_block hk, frozen_of_block hk]; exact h5 j k1 k2⟩, h6.trans (hb.mono h6.size)⟩
theorem infoB : (Try.prog.info? 5).map (fun i => (i.zero, i.size, i.bytes)) = some (some (.int .u8 0), 1, 1) := by kernel_rfl
theorem bCells_append (L M : List UInt8) : bCells (L ++ M) = bCells L ++ bCells M := by simp [bCells]
theorem bCells_len (L : List UInt8) : (bCells L).length = L.length := by simp [bCells]
theorem sizeT (b : Nat) : ∀ (vs : List Value) (o : Nat) (w : World), (w.setCells b o vs).heap.size = w.heap.size
  | [], _, _ => rfl
  | v :: vs, o, w => by
    rw [World.setCells, sizeT b vs]
    exact World.size_setCell ..
theorem tapeT (b : Nat) : ∀ (vs : List Value) (o : Nat) (w : World), (w.setCells b o vs).tape = w.tape
  | [], _, _ => rfl
  | v :: vs, o, w => by
    rw [World.setCells, tapeT b vs]
    unfold World.setCell
    split <;> rfl
theorem bt_append {w0 w : World} {v : Value} {L : List UInt8} (s : Bt w0 w v L) (ty : TypeId) (ad : Addr) (c : Nat) (M : List UInt8) (hnews : ∀ j u, (bCells M)[j]? = some u → w.cell? (ad.add j) = some u) (hb : L.length + M.length ≤ 100000000000000) :
    ∃ v' w', (Builtin.append_ #[55, 55] ty #[v, .slice (some ad) M.length c]).run Try.prog w = .ok v' w' ∧ Bt w0 w' v' (L ++ M) ∧ w.grownBy w' v.ownBlock := by
  obtain ⟨i0, hj0, hz0, hz1, hz2⟩ := info_parts infoB
  obtain ⟨⟨g, cap, rfl, h1, h2, h3, h3m, h4, h5⟩, h6⟩ := s
  by_cases hroom : L.length + M.length ≤ cap
  · have hr := run_append_room_cells (P := Try.prog) w 55 ty 5 i0 Try.underlying55 hj0 g 0 L.length cap ad M.length c (bCells M) (by rw [bCells_len, hz1, Nat.mul_one]) hnews (bCells_one M) hroom
      (fun j hj => by rw [bCells_len] at hj; rw [hz1]; exact (h5 _ (by omega) (by omega)).1) (fun j hj => by rw [bCells_len] at hj; rw [hz1]; exact (h5 _ (by omega) (by omega)).2)
    rw [hz1, Nat.mul_one, Nat.zero_add] at hr
    have hin := World.cell?_setCells_in g (bCells M) L.length w (fun j hj => by rw [bCells_len] at hj; exact (h5 _ (by omega) (by omega)).1)
    have hg : w.grownBy (w.setCells g L.length (bCells M)) (some g) := ⟨World.os_setCells .., tapeT .., World.output_setCells .., by rw [sizeT]; exact Nat.le_refl _, fun k hk hne => World.heap_setCells_other w g _ _ hk (fun e => hne (by rw [e]))⟩
    refine ⟨_, _, hr, ⟨⟨g, cap, by rw [List.length_append], h1, by rw [sizeT]; exact h2, by rw [List.length_append]; exact hroom, h3m, fun j u hu => ?_, fun j k1 k2 => ?_⟩, ?_⟩, hg⟩
    · rw [bCells_append] at hu
      by_cases e : j < L.length
      · rw [List.getElem?_append_left (by rw [bCells_len]; exact e)] at hu
        rw [World.cell?_setCells_out g (bCells M) L.length w ⟨g, j, none⟩ (fun _ _ => .inl e)]
        exact h4 j u hu
      · rw [List.getElem?_append_right (by rw [bCells_len]; omega), bCells_len] at hu
        have hj2 := (List.getElem?_eq_some_iff.1 hu).1
        have := hin (j - L.length) hj2
        rw [show L.length + (j - L.length) = j by omega] at this
        rw [this]
        rw [List.getElem?_eq_getElem hj2] at hu
        exact hu
    · rw [List.length_append] at k1
      rw [World.frozen?_setCells, World.cell?_setCells_out g (bCells M) L.length w ⟨g, j, none⟩ (fun _ _ => .inr (by rw [bCells_len]; exact k1))]
      exact h5 j (by omega) k2
    · exact h6.grown hg h6.size (fun k hk => by cases hk; exact h1)
  · obtain ⟨v', w', hr, ho, hg⟩ := run_append_arg_grows (P := Try.prog) w 55 ty 5 i0 _ 1 1 Try.underlying55 hj0 hz0 hz1 hz2 rfl (by omega) ⟨g, 0, none⟩ L.length cap (bCells L) (by rw [bCells_len, Nat.mul_one]) (fun j u hu => by rw [Addr.add_lit, Nat.zero_add]; exact h4 j u hu) ad M.length c (bCells M) (by rw [bCells_len, Nat.mul_one]) hnews (by omega) (by unfold maxLen; omega) (by omega)
    have hg2 : w.grownBy w' (some g) := ⟨hg.os, hg.tape, hg.output, hg.size, fun k hk _ => hg.block k hk (fun e => by cases e)⟩
    refine ⟨v', w', hr, ⟨?_, h6.grown hg h6.size (fun k hk => by cases hk)⟩, hg2⟩
    rcases ho.2 with ⟨-, e0⟩ | ⟨g', cap', cur, rfl, k1, k2, k3, k4, k5, k6⟩
    · omega
    · rw [Nat.mul_one] at k5 k6
      refine ⟨g', cap', by rw [List.length_append], Nat.le_trans h6.size k1, (Array.getElem?_eq_some_iff.1 k2).1, by rw [List.length_append]; exact k3, k4, fun j u hu => ?_, fun j j1 j2 => ?_⟩
      · rw [bCells_append, ← k6] at hu
        rw [List.getElem?_take] at hu
        split at hu
        · simpa [World.cell?, k2] using hu
        · cases hu
      · simp [World.cell?, World.frozen?, k2, k5, j2]
end Go.Proofs.Ytdhfoekfejcceaa
