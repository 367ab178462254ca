/-
  Cosets by the program: walked.
-/
import Derived.Test.YtehbpcoiciodhaaB17s
import Derived.Test.YtehbpcoiciodhaaE12a
import Derived.Test.YtehbpcoiciodhaaMQ
namespace Go.Proofs.Ytehbpcoiciodhaa
open Go.RowKit

theorem oprs_openC {w : World} {base n : Nat} {v : Value} {F : Nat → Nat → Int} (h : Oprs w base v n F) : ∃ g c, v = .slice (some ⟨g, 0, none⟩) n c := by
  rcases h.1.2 with ⟨h1, _⟩ | ⟨g, c, cur, e, _⟩
  · exact absurd h1 h.2
  · exact ⟨g, c, e⟩
set_option maxRecDepth 100000 in
set_option maxHeartbeats 3000000 in
theorem cosetOf_any {w : World} {base g n c : Nat} {F : Nat → Nat → Int} {p : Nat → Int} (hF : Oprs w base (.slice (some ⟨g, 0, none⟩) n c) n F) (hR : ∀ i, i < n → kR (F i)) (hp : kR p) (hn : n ≤ 192) :
    Calls Try.prog 42 #[kV p, .slice (some ⟨g, 0, none⟩) n c] w fun e w' => (∃ g' c' G, e = .returned (.slice (some ⟨g', 0, none⟩) n c') ∧ Oprs w' w.heap.size (.slice (some ⟨g', 0, none⟩) n c') n G ∧ SortOf n (fun i => mulQ p (F i)) G) ∧ Below w.heap.size w w' := by
  have hbs2 : ∀ w, (Instr.buildSlice 51 0 #[]).run Try.prog w = .ok (.slice (some ⟨w.heap.size, 0, none⟩) 0 0) (w.alloc (.cells #[] 76)) := fun _ => by kernel_rfl
  obtain ⟨i0, hi0, hz0, hz1, hz2⟩ := info_parts Try.info76
  have hn' : (n : Int) ≤ 192 := by omega
  have HP := hid_of hp
  have HR := hid_of hR
  obtain ⟨W1, hW1, Q1, B1, -⟩ := boxed w 76 (kc p).toArray
  obtain ⟨q1, hq1⟩ : ∃ q, w.heap.size = q := ⟨_, rfl⟩
  rw [hq1] at Q1
  have Q11 := hid_of Q1
  have HO := hid_of (hF.below B1)
  have HB1 := hid_of B1
  obtain ⟨W5, hW5, a5, B5, -⟩ := boxed W1 76 #[]
  obtain ⟨p5, hp5⟩ : ∃ q, W1.heap.size = q := ⟨_, rfl⟩
  have o5 : Hid (Oprs W5 W1.heap.size (.slice (some ⟨p5, 0, none⟩) 0 0) 0 (fun i => mulQ p (F i))) := hp5 ▸ oprs_new a5
  clear hp hR hF Q1 B1 a5
  unfold kV
  unfold kc at hW1 ⊢
  go_enter Try.func42, Try.ntmps42
  go_wp2
  clear hW1 hq1 hW5 hp5
  go_loopw [5, 11] (fun v s wr => ∃ i : Nat, i ≤ n ∧ s = .int .i64 (i : Int) ∧ Hid (Oprs wr W1.heap.size v i (fun i => mulQ p (F i))) ∧ Below W1.heap.size W1 wr) (fun _ s _ => n - (intOf s).toNat)
  case atStart => exact ⟨0, Nat.zero_le _, rfl, o5, B5⟩
  case round =>
    clear o5 B5
    obtain ⟨i, hi, rfl, own, B⟩ := hrel
    by_cases hlt : i < n
    rotate_left
    · obtain rfl : i = n := by omega
      have hlt' : ¬ (i : Int) < (i : Int) := by omega
      obtain ⟨g', c', e'⟩ := oprs_openC own.out
      subst e'
      go_wp2_with fail
      refine (sort_any own.out (by omega)).mono ?_
      rintro e w9 ⟨rfl, ⟨G, hG, hS⟩, hg⟩
      have hlo := own.out.lt.1
      have FI : Hid ((∃ g'' c'' G, Ending.returned (.slice (some ⟨g', 0, none⟩) i c') = .returned (.slice (some ⟨g'', 0, none⟩) i c'') ∧ Oprs w9 w.heap.size (.slice (some ⟨g'', 0, none⟩) i c'') i G ∧ SortOf i (fun i => mulQ p (F i)) G) ∧ Below w.heap.size w w9) :=
        ⟨⟨g', c', G, rfl, oprs_base hG HB1.out.size, hS⟩, HB1.out.trans ((B.grown hg B.size (fun q hq => by simp only [Value.ownBlock, Option.some.injEq] at hq; omega)).mono HB1.out.size)⟩
      clear hG hS hg own B
      go_wp2
      go_ret
      exact FI.out
    have hlt' : (i : Int) < (n : Int) := by omega
    obtain ⟨e0, e1, e2, e3, e4, e5, e6, e7, e8, e9, e10, e11⟩ := (HO.out.below B).open i hlt
    have HRi := hid_of (HR.out i hlt)
    obtain ⟨K, hK⟩ : ∃ K, F i = K := ⟨_, rfl⟩
    have HK := hid_of hK
    rw [hK] at HRi
    simp only [hK] at e0 e1 e2 e3 e4 e5 e6 e7 e8 e9 e10 e11
    clear hK
    obtain ⟨W7, hW7, a7, b7, -⟩ := boxed wr 76 (kc K).toArray
    obtain ⟨p7, hp7⟩ : ∃ p, wr.heap.size = p := ⟨_, rfl⟩
    rw [hp7] at a7
    have B7 := B.trans (b7.mono B.size)
    have own7 := hid_of (own.out.below b7)
    have Q17 := Q11.out.below B7
    obtain ⟨d0, d1, d2, d3, d4, d5, d6, d7, d8, d9, d10, d11⟩ := At.openk (x := p) Q17
    obtain ⟨f0, f1, f2, f3, f4, f5, f6, f7, f8, f9, f10, f11⟩ := At.openk (x := K) a7
    clear own b7 B
    unfold kc at hW7
    go_wp2_with fail
    refine (behind_k HP.out HRi.out W7).mono ?_
    rintro e w8 ⟨rfl, b8⟩
    clear d0 d1 d2 d3 d4 d5 d6 d7 d8 d9 d10 d11 f0 f1 f2 f3 f4 f5 f6 f7 f8 f9 f10 f11 e0 e1 e2 e3 e4 e5 e6 e7 e8 e9 e10 e11 hW7 hp7 a7 Q17
    obtain ⟨P1, hP1⟩ : ∃ L, mulQ p K = L := ⟨_, rfl⟩
    have HP1 : Hid (mulQ p (F i) = P1) := by rw [HK.out]; exact hP1
    rw [hP1]
    clear hP1
    obtain ⟨W4, hW4, a4, b4, -⟩ := boxed w8 76 (kc P1).toArray
    obtain ⟨p4, hp4⟩ : ∃ p, w8.heap.size = p := ⟨_, rfl⟩
    rw [hp4] at a4
    have b84 := b8.trans (b4.mono b8.size)
    have own4 := hid_of (own7.out.below b84).1
    have B14 := B7.trans (b84.mono B7.size)
    have hm1 : i + 1 ≤ maxLen := by unfold maxLen; omega
    have hm2 : (i + 1) * 96 ≤ 140737488355328 := by omega
    clear own7 b8 b4 b84 B7
    unfold kV
    unfold kc at hW4 ⊢
    go_wp2_with (at_builtin; refine Hid.out (?_ : Hid _))
    refine (?_ : wpList _ _ _ _ _ _)
    refine wpList_append_own_at _ rfl _ _ _ rfl W1.heap.size 76 i0 _ 12 96 Try.underlying51 hi0 hz0 hz1 hz2 rfl (by omega) u5 i (kCells (fun i => mulQ p (F i)) i) rfl own4.out ⟨p4, 0, none⟩ 1 1 (kc P1) rfl rfl (cell12_new W4 p4 P1 a4) (kc_one _) hm1 hm2 B14.size ?_
    intro v6 w6 hown5 hgrow5 hne5 hblk5
    have OF : Hid (Oprs w6 W1.heap.size v6 (i + 1) (fun i => mulQ p (F i))) := by
      refine ⟨?_, fun e => by have := (hne5.1 e).2; omega⟩
      show w6.ownsRow _ _ 12 v6 _ (kCells (fun i => mulQ p (F i)) i ++ kc (mulQ p (F i)))
      rw [HP1.out]
      exact hown5
    have BF : Below W1.heap.size W1 w6 := B14.grown hgrow5 B14.size (fun x hx => ownBlock_ge own4.out hx)
    clear hown5 hgrow5 hne5 hblk5 own4 B14 a4 hW4 hp4 hm1 hm2 HRi HP1
    go_wp2
    exact ⟨⟨i + 1, by omega, by go_num, OF, BF⟩, by simp [intOf]; omega⟩
/-- All of them are keys. -/
def AllIn (n : Nat) (F : Nat → Nat → Int) (ks : List (Nat → Int)) : Prop := ∀ i, i < n → kV (F i) ∈ ks.map kV
set_option maxRecDepth 100000 in
set_option maxHeartbeats 1600000 in
theorem haveAll_any {w : World} {b base g n c : Nat} {ks : List (Nat → Int)} {F : Nat → Nat → Int} (hM : MapV w b ks) (hF : Oprs w base (.slice (some ⟨g, 0, none⟩) n c) n F) (hs : ∀ i, i < n → small (F i)) (hn : n ≤ 192) :
    Calls Try.prog 40 #[.map (some b), .slice (some ⟨g, 0, none⟩) n c] w fun e w' => Tells e (AllIn n F ks) ∧ Below w.heap.size w w' := by
  have hn' : (n : Int) ≤ 192 := by omega
  have HM := hid_of hM
  have HO := hid_of hF
  have HS := hid_of hs
  clear hM hF hs
  go_enter Try.func40, Try.ntmps40
  go_wp2
  go_loopw [9] (fun s wr => ∃ i : Nat, i ≤ n ∧ s = .int .i64 (i : Int) ∧ Hid (∀ t, t < i → kV (F t) ∈ ks.map kV) ∧ Below w.heap.size w wr) (fun s _ => n - (intOf s).toNat)
  case atStart => exact ⟨0, Nat.zero_le _, rfl, fun t ht => by omega, Below.refl _ _⟩
  case round =>
    obtain ⟨i, hi, rfl, AL, B⟩ := hrel
    by_cases hlt : i < n
    · have hlt' : (i : Int) < (n : Int) := by omega
      obtain ⟨e0, e1, e2, e3, e4, e5, e6, e7, e8, e9, e10, e11⟩ := (HO.out.below B).open i hlt
      have hsm := HS.out i hlt
      obtain ⟨K, hK⟩ : ∃ K, F i = K := ⟨_, rfl⟩
      have HK := hid_of hK
      rw [hK] at hsm
      simp only [hK] at e0 e1 e2 e3 e4 e5 e6 e7 e8 e9 e10 e11
      clear hK
      obtain ⟨W7, hW7, a7, b7, -⟩ := boxed wr 76 (kc K).toArray
      obtain ⟨p7, hp7⟩ : ∃ p, wr.heap.size = p := ⟨_, rfl⟩
      rw [hp7] at a7
      have B7 := B.trans (b7.mono B.size)
      obtain ⟨f0, f1, f2, f3, f4, f5, f6, f7, f8, f9, f10, f11⟩ := At.openk (x := K) a7
      have CH : Hid (Calls Try.prog 41 #[.map (some b), .agg #[.int .i64 (K 0), .int .i64 (K 1), .int .i64 (K 2), .int .i64 (K 3), .int .i64 (K 4), .int .i64 (K 5), .int .i64 (K 6), .int .i64 (K 7), .int .i64 (K 8), .int .i64 (K 9), .int .i64 (K 10), .int .i64 (K 11)]] W7 fun e w' => (∃ r, e = .returned (.bool r) ∧ (r = true ↔ kV K ∈ ks.map kV)) ∧ Below W7.heap.size W7 w') := have_any (HM.out.below B7) hsm
      clear b7 B hsm
      unfold kc at hW7
      go_wp2_with fail
      refine CH.out.mono ?_
      rintro e w8 ⟨⟨r, rfl, hr⟩, b8⟩
      have B8 := B7.trans (b8.mono B7.size)
      clear f0 f1 f2 f3 f4 f5 f6 f7 f8 f9 f10 f11 e0 e1 e2 e3 e4 e5 e6 e7 e8 e9 e10 e11 hW7 hp7 a7 CH b8 B7
      have HR := hid_of hr
      clear hr
      cases r
      · have FI : Hid (Tells (.returned (.bool false)) (AllIn n F ks) ∧ Below w.heap.size w w8) := ⟨tells_no (fun h => absurd (HR.out.2 (HK.out ▸ h i hlt)) (by decide)), B8⟩
        clear HR AL B8
        go_wp2
        go_ret
        exact FI.out
      · have AL2 : Hid (∀ t, t < i + 1 → kV (F t) ∈ ks.map kV) := fun t ht => by
          by_cases e : t = i
          · subst e; rw [HK.out]; exact HR.out.1 rfl
          · exact AL.out t (by omega)
        clear HR AL
        go_wp2
        exact ⟨⟨i + 1, by omega, by go_num, AL2, B8⟩, by simp [intOf]; omega⟩
    · obtain rfl : i = n := by omega
      have hlt' : ¬ (i : Int) < (i : Int) := by omega
      have FI : Hid (Tells (.returned (.bool true)) (AllIn i F ks) ∧ Below w.heap.size w wr) := ⟨tells_yes AL.out, B⟩
      clear AL B
      go_wp2
      go_ret
      exact FI.out
end Go.Proofs.Ytehbpcoiciodhaa
