/-
  The corners sorted in the order in which they are seen: walked.
-/
import Derived.Test.YtealbihplfpgeaaKe
namespace Go.Proofs.Ytealbihplfpgeaa
open Go.RowKit Go.Shelf Go.Sort

theorem hT_ht (f : Nat → Int) (o a : Nat × Nat) : hT (gX f o) (gY f o) (gD f o) (gX f a) (gY f a) (gD f a) = ht f o a := by
  have e : gX f o * gY f a - gY f o * gX f a = tn f o a := rfl
  unfold hT
  rw [e]
  rcases ht_cases f o a with ⟨h, c⟩ | ⟨h, c, d⟩
  · rw [h, if_pos]
    rcases c with c | c
    · exact .inl c
    · exact .inr c
  · rw [h, if_neg]
    rintro (z | z)
    · exact c z
    · omega
theorem cmp_cf (f : Nat → Int) (o a b : Nat × Nat) : (if cmp3 (ht f o a) (ht f o b) = 0 then cmp3 0 (tn f a b) else cmp3 (ht f o a) (ht f o b)) = cf f o a b := by
  unfold cmp3 cf
  split <;> split <;> (try split) <;> (try split) <;> (try split) <;> (try omega) <;> simp_all <;> omega
/-- A corner's cells. -/
def ek (f : Nat → Int) (n : Nat) (c : Ck f n) : List Value := [.int .i64 (gX f c.1), .int .i64 (gY f c.1), .int .i64 (gD f c.1)]
theorem SOk.g_in {n : Nat} {f : Nat → Int} (S : SOk n f) {c : Nat × Nat} (h : c ∈ allP f n n) : (-1000000 ≤ gX f c ∧ gX f c ≤ 1000000) ∧ (-1000000 ≤ gY f c ∧ gY f c ≤ 1000000) := by
  have q := mem_allP.1 h
  have := S.c_in q.1 q.2.1 q.2.2.1
  unfold gX gY
  omega
theorem cornerLays {n : Nat} {f : Nat → Int} [Inhabited (Ck f n)] (S : SOk n f) {o : Nat × Nat} (ho : o ∈ allP f n n) {q blk off size : Nat} {w : World} (hq : At 33 w q #[.int .i64 (gX f o), .int .i64 (gY f o), .int .i64 (gD f o)]) (hne : q ≠ blk) :
    CmpLays Try.prog 68 #[.pointer (some ⟨q, 0, none⟩)] (ek f n) 3 (cfk f n o) blk off size w := by
  intro m os dk _ x y
  have hA : At 33 (sortWorldK (ek f n) 3 w blk off m dk os) q #[.int .i64 (gX f o), .int .i64 (gY f o), .int .i64 (gD f o)] := by
    have hl := hq.lt
    refine Eq.trans ?_ hq
    unfold sortWorldK grow putRowK putRow mapBlock Go.Sort.ahead
    dsimp only
    rw [Array.getElem?_append_left (by simpa using hl), Array.getElem?_modify, if_neg (fun e => hne e.symm)]
  have b0 := S.g_in ho
  have b1 := S.g_in x.2
  have b2 := S.g_in y.2
  have h := turning_any q (gX f o) (gY f o) (gD f o) (gX f x.1) (gY f x.1) (gD f x.1) (gX f y.1) (gY f y.1) (gD f y.1) _ hA b0.1 b0.2 b1.1 b1.2 b2.1 b2.2
  rw [hT_ht, hT_ht, show gX f x.1 * gY f y.1 - gY f x.1 * gX f y.1 = tn f x.1 y.1 from rfl, cmp_cf] at h
  exact h
end Go.Proofs.Ytealbihplfpgeaa
