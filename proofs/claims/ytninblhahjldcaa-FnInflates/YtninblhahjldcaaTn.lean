/-
  What is inflated once is taken back.
-/
import Derived.Test.YtninblhahjldcaaTm
import Derived.Test.YtninblhahjldcaaTc
namespace Go.Proofs.Ytninblhahjldcaa
open Go.RowKit

theorem sb_mid (P R : List UInt8) (c : UInt8) : sb (tx (P ++ c :: R)) P.length = (c.toNat : Int) := by
  rw [tx_sb _ _ (by simp)]
  simp
theorem inf1_head (b : UInt8) : ∃ R, inf1 b = 76 :: R := by
  unfold inf1
  by_cases e : b = 76
  · exact ⟨[83], if_pos e⟩
  · exact ⟨[], if_neg e⟩
theorem dfl_infl_at (L : List UInt8) : ∀ (B A : List UInt8), L = A ++ B → (∀ b ∈ B, b = 76 ∨ b = 83) → Dfl (tx (infl L)) (infl A).length A (some L) := by
  intro B
  induction B with
  | nil =>
    intro A h _
    rw [List.append_nil] at h
    subst h
    exact Dfl.fin _ _ (by rw [tx_size]; omega)
  | cons b B ih =>
    intro A h hb
    have h2 : L = (A ++ [b]) ++ B := by simp [h]
    have k := ih (A ++ [b]) h2 (fun x hx => hb x (List.mem_cons_of_mem _ hx))
    rw [infl_add] at k
    have hX : infl L = infl A ++ inf1 b ++ infl B := by rw [h]; simp [infl]
    rcases hb b (List.mem_cons_self ..) with rfl | rfl
    · have hX2 : infl L = infl A ++ 76 :: 83 :: infl B := by rw [hX]; simp [inf1]
      have hX3 : infl L = (infl A ++ [76]) ++ 83 :: infl B := by rw [hX2]; simp
      have s1 : sb (tx (infl L)) (infl A).length = 76 := by rw [hX2]; exact sb_mid _ _ _
      have s2 : sb (tx (infl L)) ((infl A).length + 1) = 83 := by
        have := sb_mid (infl A ++ [76]) (infl B) 83
        rw [← hX3] at this
        simpa using this
      refine Dfl.two _ _ _ (by rw [tx_size, hX2]; simp) (by rw [s1]; decide) (by rw [tx_size, hX2]; simp) s2 ?_
      simpa [inf1] using k
    · have hX2 : infl L = infl A ++ 76 :: infl B := by rw [hX]; simp [inf1]
      have s1 : sb (tx (infl L)) (infl A).length = 76 := by rw [hX2]; exact sb_mid _ _ _
      refine Dfl.one _ _ _ (by rw [tx_size, hX2]; simp) (by rw [s1]; decide) (fun hlt => ?_) ?_
      · cases B with
        | nil => rw [tx_size, hX2] at hlt; simp [infl] at hlt
        | cons c B =>
          obtain ⟨R, hR⟩ := inf1_head c
          have hX3 : infl L = (infl A ++ [76]) ++ 76 :: (R ++ infl B) := by rw [hX2]; simp [infl, hR]
          have := sb_mid (infl A ++ [76]) (R ++ infl B) 76
          rw [← hX3] at this
          rw [show (infl A).length + 1 = (infl A ++ [76]).length by simp, this]
          decide
      · simpa [inf1] using k
theorem dfl_infl (L : List UInt8) (h : ∀ b ∈ L, b = 76 ∨ b = 83) : Dfl (tx (infl L)) 0 [] (some L) := dfl_infl_at L L [] rfl h
theorem letters_of {L : List UInt8} {m : Int} (h : rowOk (tx L) m = true) : ∀ b ∈ L, b = 76 ∨ b = 83 := by
  intro b hb
  obtain ⟨i, hi, rfl⟩ := List.getElem_of_mem hb
  rcases (rowOk_iff.1 h).2 i (by rw [tx_size]; exact hi) with e | e
  · rw [tx_sb L i hi] at e; exact .inl (byte_eq.1 e)
  · rw [tx_sb L i hi] at e
    refine .inr (UInt8.toNat_inj.1 ?_)
    have : (83 : UInt8).toNat = 83 := rfl
    omega
theorem rowOk_of {L : List UInt8} (h : ∀ b ∈ L, b = 76 ∨ b = 83) (hl : L.length ≤ 20000) : rowOk (tx L) 20000 = true := by
  refine rowOk_iff.2 ⟨by rw [tx_size]; omega, fun k hk => ?_⟩
  rw [tx_size] at hk
  rw [tx_sb L k hk]
  rcases h _ (List.getElem_mem hk) with e | e <;> rw [e]
  · exact .inl rfl
  · exact .inr rfl
end Go.Proofs.Ytninblhahjldcaa
