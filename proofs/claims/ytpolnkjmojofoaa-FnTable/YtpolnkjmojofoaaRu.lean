/-
  Texts read by the specification, walked.
-/
import Derived.Test.YtpolnkjmojofoaaRs
import Derived.Test.YtpolnkjmojofoaaMG
namespace Go.Proofs.Ytpolnkjmojofoaa
open Go.RowKit

theorem iCells_cat3 (M row : Nat → Int) (n : Nat) : iCells (cat3 M n row) (n + 3) = iCells M n ++ [.int .i64 (row 0), .int .i64 (row 1), .int .i64 (row 2)] := by
  have h := iCells_cat n M row 3
  have e : cat n M row = cat3 M n row := rfl
  rw [e] at h
  rw [h]
  rfl
theorem iCells_snoc' (T : Nat → Int) (n : Nat) (x : Int) : iCells (snoc T n x) (n + 1) = iCells T n ++ [.int .i64 x] := (iCells_snoc T n x).symm
theorem own_src {w : World} {base n c : Nat} {a : Option Addr} {f : Nat → Int} (h : w.ownsRow base 2 1 (.slice a n c) n (iCells f n)) : Src w a n f := by
  obtain ⟨a', c', e, hs⟩ := (arr_of_owns h).src
  cases e
  exact hs
theorem own_told {w : World} {B lo q : Nat} {va ua : Option Addr} {vc uc : Nat} {M T : Nat → Int} (oM : w.ownsRow B 2 1 (.slice va 9 vc) 9 (iCells M 9)) (oT : w.ownsRow B 2 1 (.slice ua 3 uc) 3 (iCells T 3)) (hap : ∀ x, (Value.slice va 9 vc).ownBlock = some x → (Value.slice ua 3 uc).ownBlock ≠ some x) (hq : q < B) (hl : lo ≤ B) (v1 v2 : Value) :
    Told ((w.setCell ⟨q, 0, none⟩ v1).setCell ⟨q, 1, none⟩ v2) lo ((w.setCell ⟨q, 0, none⟩ v1).setCell ⟨q, 1, none⟩ v2).heap.size (.agg #[.slice va 9 vc, .slice ua 3 uc]) true M T := by
  have t0 : OpAt w B w.heap.size (.agg #[.slice va 9 vc, .slice ua 3 uc]) 9 M 3 T := ⟨_, _, rfl, arr_of_owns oM, arr_of_owns oT, hap⟩
  obtain ⟨u1, u2, e, h1, h2, h3⟩ := t0.store hq v1 v2
  have hs : w.heap.size ≤ ((w.setCell ⟨q, 0, none⟩ v1).setCell ⟨q, 1, none⟩ v2).heap.size := by simp [World.setCell]
  exact ⟨u1, u2, e, h1.wide hl hs, h2.wide hl hs, h3⟩
theorem own_far' {w w' : World} {B : Nat} {e : TypeId} {k : Nat} {v : Value} {n : Nat} {xs : List Value} {row : Option Nat} (h : w.ownsRow B e k v n xs) (hg : w.grownBy w' row) (hne : ∀ x, row = some x → v.ownBlock ≠ some x) : w'.ownsRow B e k v n xs := by
  refine ⟨h.1, h.2.imp id ?_⟩
  rintro ⟨g, cap, cur, rfl, h1, h2, h3⟩
  exact ⟨g, cap, cur, rfl, h1, (hg.block g (Array.getElem?_eq_some_iff.1 h2).1 (fun e => hne g e.symm rfl)).trans h2, h3⟩
theorem own_set {w : World} {B q i : Nat} {e : TypeId} {k : Nat} {v : Value} {n : Nat} {xs : List Value} (h : w.ownsRow B e k v n xs) (hq : q < B) (u : Value) : (w.setCell ⟨q, i, none⟩ u).ownsRow B e k v n xs := by
  refine ⟨h.1, h.2.imp id ?_⟩
  rintro ⟨g, cap, cur, rfl, h1, h2, h3⟩
  exact ⟨g, cap, cur, rfl, h1, (Below.heap_setCell _ _ _ _ (show g ≠ q by omega)).trans h2, h3⟩
theorem ownBlock_lt {w : World} {base : Nat} {e : TypeId} {size : Nat} {v : Value} {n : Nat} {xs : List Value} (h : w.ownsRow base e size v n xs) {j : Nat} (hj : v.ownBlock = some j) : j < w.heap.size := by
  rcases h.2 with ⟨rfl, _⟩ | ⟨g, cap, cur, rfl, hb, h2, _⟩
  · cases hj
  · cases hj; exact (Array.getElem?_eq_some_iff.1 h2).1
theorem at_set {t : TypeId} {w : World} {q p i : Nat} {vs : Array Value} (h : At t w q vs) (hp : q ≠ p) (u : Value) : At t (w.setCell ⟨p, i, none⟩ u) q vs := (Below.heap_setCell _ _ _ _ hp).trans h
theorem row_ints {w : World} {g : Nat} {row : Nat → Int} (h : At 2 w g (vA row)) : Ints w g 0 3 row := by
  obtain ⟨c0, c1, c2, -⟩ := h.open3
  intro i hi
  rcases (by omega : i = 0 ∨ i = 1 ∨ i = 2) with rfl | rfl | rfl <;> assumption
set_option maxRecDepth 100000 in
set_option maxHeartbeats 1600000 in
theorem opRead_any (s : ByteArray) (w : World) (hs : s.size ≤ 200) :
    Calls Try.prog 68 #[.string s] w fun e w' => ∃ o, e = .returned (.tuple #[o, .int .i64 (readF s (s.size + 2) 0 0 0 (fun _ => 0) (fun _ => 0)).2.1]) ∧ Told w' w.heap.size w'.heap.size o (readF s (s.size + 2) 0 0 0 (fun _ => 0) (fun _ => 0)).1 (readF s (s.size + 2) 0 0 0 (fun _ => 0) (fun _ => 0)).2.2.1 (readF s (s.size + 2) 0 0 0 (fun _ => 0) (fun _ => 0)).2.2.2 ∧ Below w.heap.size w w' := by
  have hs' : (s.size : Int) ≤ 200 := by omega
  obtain ⟨R, hR0⟩ : ∃ R, readF s (s.size + 2) 0 0 0 (fun _ => 0) (fun _ => 0) = R := ⟨_, rfl⟩
  rw [hR0]
  obtain ⟨i0, hi0, hz0, hz1, hz2⟩ := info_parts Try.info2
  obtain ⟨W1, hW1, a1, B, -⟩ := boxed w 33 #[.slice none 0 0, .slice none 0 0]
  obtain ⟨X2, hX2, W2, hW2, a2, B2, x0, x1, y0, y1⟩ := boxed2 W1 (.slice none 0 0) (.slice none 0 0)
  have s1 := a1.lt
  have s2 := a2.lt
  replace a1 := a1.below B2
  replace B := B.trans (B2.mono B.size)
  go_enter Try.func68, Try.ntmps68
  go_wp2
  clear hW1 hX2 hW2 x0 x1 y0 y1 B2
  have o1 : W2.ownsRow W2.heap.size 2 1 (.slice none 0 0) 0 (iCells (fun _ => 0) 0) := ⟨rfl, .inl ⟨rfl, rfl⟩⟩
  have hap0 : Hid (∀ x, (Value.slice none (3 * 0) 0).ownBlock = some x → (Value.slice none 0 0).ownBlock ≠ some x) := fun x hx => by cases hx
  go_loopw [5, 6, 7] (fun c k n wr => ∃ (i K C fuel : Nat) (M T : Nat → Int) (va ua : Option Addr) (vc uc : Nat), (i ≤ s.size + 1 ∧ s.size + 2 ≤ fuel + i ∧ K ≤ i ∧ C ≤ i ∧ W2.heap.size ≤ wr.heap.size) ∧ n = .int .i64 i ∧ k = .int .i64 K ∧ c = .int .i64 C ∧ Hid (readF s fuel i K C M T = R) ∧ At 33 wr w.heap.size #[.slice none 0 0, .slice none 0 0] ∧ At 33 wr W1.heap.size #[.slice va (3 * C) vc, .slice ua C uc] ∧ wr.ownsRow W2.heap.size 2 1 (.slice va (3 * C) vc) (3 * C) (iCells M (3 * C)) ∧ wr.ownsRow W2.heap.size 2 1 (.slice ua C uc) C (iCells T C) ∧ Hid (∀ x, (Value.slice va (3 * C) vc).ownBlock = some x → (Value.slice ua C uc).ownBlock ≠ some x) ∧ Below w.heap.size w wr) (fun _ _ n _ => s.size + 2 - (intOf n).toNat)
  case atStart => exact ⟨0, 0, 0, s.size + 2, _, _, none, none, 0, 0, by omega, rfl, rfl, rfl, hR0, a1, a2, o1, o1, hap0, B⟩
  case round =>
    clear hR0 a1 a2 o1 B hap0
    obtain ⟨i, K, C, fuel, M, T, va, ua, vc, uc, hb, rfl, rfl, rfl, hR, a1, a2, oM, oT, hap, B⟩ := hrel
    obtain ⟨fu, rfl⟩ : ∃ fu, fuel = fu + 1 := ⟨fuel - 1, by omega⟩
    have hst := hR.out
    rw [readF] at hst
    by_cases hend : s.size < i
    · rw [if_pos hend] at hst
      clear hR
      have h0 : ¬ (i : Int) ≤ (s.size : Int) := by omega
      obtain ⟨d0, d1, f0, f1⟩ := a2.open2
      by_cases hC : C = 3
      · subst hC
        go_wp2_with fail
        have zok := specOk_any vc uc (own_src oM) (own_src oT)
        refine zok.mono ?_
        rintro e w3 ⟨rfl, b3⟩
        replace a1 := a1.below b3
        replace a2 := a2.below b3
        replace oM := own_below oM b3
        replace oT := own_below oT b3
        replace B := B.trans (b3.mono B.size)
        clear b3 zok d0 d1 f0 f1
        by_cases hop : isOp 9 M 3 T
        · rw [if_pos ⟨by first | rfl | trivial, hop⟩] at hst
          subst hst
          obtain ⟨d0, d1, f0, f1⟩ := a2.open2
          obtain ⟨d2, d3, f2, f3⟩ := a1.open2
          simp only [decide_eq_true hop]
          go_wp2
          have a8 := nil2_at a1 (.slice va 9 vc) (.slice ua 3 uc)
          obtain ⟨p0, p1, -⟩ := a8.open2
          exact bodyPost_ret (v := .tuple #[.agg #[.slice va 9 vc, .slice ua 3 uc], .int .i64 (-1)]) (by simp [results, Try.results68, go_sem, p0, p1]) rfl ⟨_, rfl, own_told oM oT hap.out (by omega) (by omega) _ _, (B.setCell (Nat.le_refl w.heap.size) _).setCell (Nat.le_refl w.heap.size) _⟩
        · rw [if_neg (fun x => hop x.2)] at hst
          subst hst
          obtain ⟨d0, d1, f0, f1⟩ := a1.open2
          simp only [decide_eq_false hop]
          go_wp2
          have a8 := nil2_at a1 (.slice none 0 0) (.slice none 0 0)
          obtain ⟨p0, p1, -⟩ := a8.open2
          exact bodyPost_ret (v := .tuple #[.agg #[.slice none 0 0, .slice none 0 0], .int .i64 (s.size : Int)]) (by simp [results, Try.results68, go_sem, p0, p1]) rfl ⟨_, rfl, told_none _ _ _ _ _, (B.setCell (Nat.le_refl w.heap.size) _).setCell (Nat.le_refl w.heap.size) _⟩
      · have hC' : ((C : Int) != 3) = true := by simp; omega
        have hC2 : ((C : Int) == 3) = false := by simp; omega
        rw [if_neg (fun x => hC x.1)] at hst
        subst hst
        obtain ⟨d0, d1, f0, f1⟩ := a1.open2
        go_wp2
        have a8 := nil2_at a1 (.slice none 0 0) (.slice none 0 0)
        obtain ⟨p0, p1, -⟩ := a8.open2
        exact bodyPost_ret (v := .tuple #[.agg #[.slice none 0 0, .slice none 0 0], .int .i64 (s.size : Int)]) (by simp [results, Try.results68, go_sem, p0, p1]) rfl ⟨_, rfl, told_none _ _ _ _ _, (B.setCell (Nat.le_refl w.heap.size) _).setCell (Nat.le_refl w.heap.size) _⟩
    · rw [if_neg hend] at hst
      have h0 : (i : Int) ≤ (s.size : Int) := by omega
      by_cases hgo : i < s.size ∧ byt s i ≠ 44
      · rw [if_pos hgo] at hst
        obtain ⟨hgl, hne⟩ := hgo
        have h1 : (i : Int) < (s.size : Int) := by omega
        have hbt := byt_at s i hgl
        obtain ⟨d, hd⟩ : ∃ d, byt s i = d := ⟨_, rfl⟩
        rw [hd] at hbt hne
        have e1 : ((d : Int) == 44) = false := by simp; omega
        have e2 : ((d : Int) != 44) = true := by simp; omega
        have HN : Hid (readF s fu (i + 1) K C M T = R) := hst
        clear hst hR hd
        go_wp2
        exact ⟨⟨i + 1, K, C, fu, M, T, va, ua, vc, uc, by omega, by go_num, rfl, rfl, HN, a1, a2, oM, oT, hap, B⟩, by simp [intOf]; omega⟩
      · rw [if_neg hgo] at hst
        have hKi : (K : Int) ≤ (i : Int) := by omega
        have hil : (i : Int) ≤ 200 := by omega
        have hCl : (C : Int) ≤ 200 := by omega
        clear hR
        by_cases hsz : i < s.size
        · have h1 : (i : Int) < (s.size : Int) := by omega
          have hbt := byt_at s i hsz
          have h44 : byt s i = 44 := Classical.not_not.1 (fun x => hgo ⟨hsz, x⟩)
          rw [h44] at hbt
          clear hgo h44
          go_wp2
          clear hbt
          go_loopw [8, 9] (fun t j wx => ∃ d : Nat, d ≤ i - K ∧ t = .string (unb s K d) ∧ j = .int .i64 ((K + d : Nat) : Int) ∧ wr = wx) (fun _ j _ => i - (intOf j).toNat)
          case atStart => exact ⟨0, Nat.zero_le _, rfl, rfl, rfl⟩
          case round =>
            obtain ⟨d, hd, rfl, rfl, rfl⟩ := hrel
            have hus := unb_size s K d
            by_cases hdl : K + d < i
            · have q1 : ((K + d : Nat) : Int) < (i : Int) := by omega
              have hun : Hid ((if byt s (K + d) = 32 then unb s K d else unb s K d ++ s.extract (K + d) (K + d + 1)) = unb s K (d + 1)) := rfl
              obtain ⟨y, hy⟩ : ∃ y, K + d = y := ⟨_, rfl⟩
              rw [hy] at q1 hun ⊢
              have hyl : y + 1 ≤ s.size := by omega
              have hbt := byt_at s y (by omega)
              have hyl' : (y : Int) + 1 ≤ (s.size : Int) := by omega
              have hyl'' : (y : Int) < (s.size : Int) := by omega
              obtain ⟨b, hb2⟩ : ∃ b, byt s y = b := ⟨_, rfl⟩
              rw [hb2] at hbt hun
              clear hb2
              by_cases h32 : b = 32
              · subst h32
                have hun2 := hun.out
                rw [if_pos rfl] at hun2
                have HU : Hid (unb s K d = unb s K (d + 1)) := hun2
                clear hun2 hun
                go_wp2
                exact ⟨⟨d + 1, by omega, by rw [← HU.out], by rw [← hy]; go_num, by trivial⟩, by simp [intOf]; omega⟩
              · have e32 : ((b : Int) == 32) = false := by simp; omega
                have e32' : ((b : Int) != 32) = true := by simp; omega
                have hun2 := hun.out
                rw [if_neg h32] at hun2
                have HU : Hid (unb s K d ++ s.extract y (y + 1) = unb s K (d + 1)) := hun2
                clear hun2 hun
                have hy0 : (0 : Int) ≤ (y : Int) := by omega
                have hy1 : (y : Int) ≤ (y : Int) + 1 := by omega
                have hyn : ((y : Int) + 1).toNat = y + 1 := by omega
                have hsl : ∀ wx : World, (Instr.slice 9 (.string s) (some (.int .i64 (y : Int))) (some (.int .i64 ((y : Int) + 1))) none).run Try.prog wx = .ok (.string (s.extract y (y + 1))) wx := by
                  intro wx
                  have h := run_slice_string (P := Try.prog) (w := wx) 9 s .i64 .i64 (y : Int) ((y : Int) + 1) Try.underlying9 hy0 hy1 hyl'
                  rw [hyn] at h
                  simpa using h
                go_wp2
                exact ⟨⟨d + 1, by omega, by rw [← HU.out], by rw [← hy]; go_num, by trivial⟩, by simp [intOf]; omega⟩
            · have q1 : ¬ ((K + d : Nat) : Int) < (i : Int) := by omega
              obtain rfl : d = i - K := by omega
              have hte := term_any (unb s K (i - K)) wr (by omega)
              obtain ⟨r, hr⟩ : ∃ r, termF (unb s K (i - K)) ((unb s K (i - K)).size + 2) 0 (fun _ => 0) 0 false = r := ⟨_, rfl⟩
              rw [hr] at hte hst
              obtain ⟨u, hu⟩ : ∃ u, unb s K (i - K) = u := ⟨_, rfl⟩
              rw [hu] at hte ⊢
              clear hr hu hus
              go_wp2_with fail
              refine hte.mono ?_
              rintro e w3 ⟨g, rfl, hg, ag, b3⟩
              replace a1 := a1.below b3
              replace a2 := a2.below b3
              replace oM := own_below oM b3
              replace oT := own_below oT b3
              replace B := B.trans (b3.mono B.size)
              have s3 := b3.size
              clear b3 hte
              obtain ⟨row, t, ok⟩ := r
              dsimp only at hst ag ⊢
              by_cases hok : ok = true
              · subst hok
                rw [if_pos rfl] at hst
                have HN : Hid (readF s fu (i + 1) (i + 1) (C + 1) (cat3 M (3 * C) row) (snoc T C t) = R) := hst
                clear hst
                obtain ⟨d0, d1, f0, f1⟩ := a2.open2
                have hri := row_ints ag
                have hm1 : 3 * C + 3 ≤ maxLen := by unfold maxLen; omega
                have hm2 : (3 * C + 3) * 8 ≤ 140737488355328 := by omega
                have hm3 : W2.heap.size ≤ w3.heap.size := by omega
                go_wp2_with (at_builtin; refine wpList_append_own_at _ rfl _ _ _ rfl W2.heap.size 2 i0 _ 1 8 Try.underlying31 hi0 hz0 hz1 hz2 rfl (by omega) (.slice va (3 * C) vc) (3 * C) (iCells M (3 * C)) rfl oM ⟨g, 0, none⟩ 3 3 (iCells row 3) rfl (by simp [iCells_len]) (ints_news hri) (iCells_one row 3) hm1 hm2 hm3 ?_; intro v2 w2 hown2 hgrow2 hne2 hblk2; refine Hid.out (?_ : Hid _))
                refine (?_ : wpList _ _ _ _ _ _)
                clear d0 d1 f0 f1 hri ag hm1 hm2 hne2
                have ho2 : w2.ownsRow W2.heap.size 2 1 v2 (3 * C + 3) (iCells (cat3 M (3 * C) row) (3 * C + 3)) := by rw [iCells_cat3]; exact hown2
                obtain ⟨va2, vc2, rfl⟩ := own_form ho2
                have bM := fun x (hx : (Value.slice va (3 * C) vc).ownBlock = some x) => ownBlock_ge oM hx
                have oT2 := own_far' oT hgrow2 hap.out
                have hap1 : Hid (∀ x, (Value.slice va2 (3 * C + 3) vc2).ownBlock = some x → (Value.slice ua C uc).ownBlock ≠ some x) := by
                  intro x hx e
                  rcases hblk2 with q | q
                  · exact hap.out x (q.symm.trans hx) e
                  · have h1 := ownBlock_lt oT e
                    have h2 : x = w3.heap.size := Option.some.inj (hx.symm.trans q)
                    omega
                have z2 : w3.heap.size ≤ w2.heap.size := hgrow2.size
                replace a1 : At 33 w2 w.heap.size #[.slice none 0 0, .slice none 0 0] := (hgrow2.block _ a1.lt (fun e => by have := bM _ e.symm; omega)).trans a1
                replace a2 : At 33 w2 W1.heap.size #[.slice va (3 * C) vc, .slice ua C uc] := (hgrow2.block _ a2.lt (fun e => by have := bM _ e.symm; omega)).trans a2
                replace B := B.grown hgrow2 (by omega) (fun x hx => by have := bM _ hx; omega)
                clear hown2 hgrow2 hblk2 oM oT hap bM
                obtain ⟨d0, d1, f0, f1⟩ := a2.open2
                obtain ⟨w4, hw4⟩ : ∃ w4, w2.setCell ⟨W1.heap.size, 0, none⟩ (.slice va2 (3 * C + 3) vc2) = w4 := ⟨_, rfl⟩
                have z4 : w4.heap.size = w2.heap.size := by rw [← hw4]; simp [World.setCell]
                have e1 : At 33 w4 w.heap.size #[.slice none 0 0, .slice none 0 0] := by rw [← hw4]; exact at_set a1 (by omega) _
                have e2 : At 33 w4 W1.heap.size #[.slice va2 (3 * C + 3) vc2, .slice ua C uc] := by rw [← hw4]; simpa using a2.set 0 (.slice va2 (3 * C + 3) vc2)
                have oM4 : w4.ownsRow W2.heap.size 2 1 (.slice va2 (3 * C + 3) vc2) (3 * C + 3) (iCells (cat3 M (3 * C) row) (3 * C + 3)) := by rw [← hw4]; exact own_set ho2 s2 _
                have oT4 : w4.ownsRow W2.heap.size 2 1 (.slice ua C uc) C (iCells T C) := by rw [← hw4]; exact own_set oT2 s2 _
                replace B : Below w.heap.size w w4 := by rw [← hw4]; exact B.setCell (Nat.le_of_lt s1) _
                obtain ⟨w5, hw5, a5, b5, -⟩ := boxed w4 2 #[.int .i64 t]
                obtain ⟨r0, r1, r2, r3⟩ := e2.open2
                have oM5 := own_below oM4 b5
                have oT5 := own_below oT4 b5
                have z5 := b5.size
                have hm4 : C + 1 ≤ maxLen := by unfold maxLen; omega
                have hm5 : (C + 1) * 8 ≤ 140737488355328 := by omega
                have hm6 : W2.heap.size ≤ w5.heap.size := by omega
                have hnw : ∀ j u, [Value.int .i64 t][j]? = some u → w5.cell? ((⟨w2.heap.size, 0, none⟩ : Addr).add j) = some u := by
                  intro j u hu
                  cases j with
                  | zero => cases hu; rw [← z4]; exact a5.cell 0 rfl
                  | succ j => cases hu
                have h1c : ∀ u ∈ [Value.int .i64 t], u.oneCell' = true := by
                  intro u hu
                  rw [List.mem_singleton] at hu
                  rw [hu]
                  rfl
                go_wp2_with (at_builtin; refine Hid.out (?_ : Hid _))
                refine (?_ : wpList _ _ _ _ _ _)
                refine wpList_append_own_at _ rfl _ _ _ rfl W2.heap.size 2 i0 _ 1 8 Try.underlying31 hi0 hz0 hz1 hz2 rfl (by omega) (.slice ua C uc) C (iCells T C) rfl oT5 ⟨w2.heap.size, 0, none⟩ 1 1 [.int .i64 t] rfl rfl hnw h1c hm4 hm5 hm6 ?_
                intro v3 w6 hown3 hgrow3 hne3 hblk3
                clear d0 d1 f0 f1 r0 r1 r2 r3 hw4 hw5 hnw hm4 hm5 hne3
                have ho3 : w6.ownsRow W2.heap.size 2 1 v3 (C + 1) (iCells (snoc T C t) (C + 1)) := by rw [iCells_snoc']; exact hown3
                obtain ⟨ua2, uc2, rfl⟩ := own_form ho3
                have bT := fun x (hx : (Value.slice ua C uc).ownBlock = some x) => ownBlock_ge oT5 hx
                have oM6 := own_far' oM5 hgrow3 (fun x hx e => hap1.out x e hx)
                have hap2 : Hid (∀ x, (Value.slice va2 (3 * C + 3) vc2).ownBlock = some x → (Value.slice ua2 (C + 1) uc2).ownBlock ≠ some x) := by
                  intro x hx e
                  rcases hblk3 with q | q
                  · exact hap1.out x hx (q.symm.trans e)
                  · have h1 := ownBlock_lt oM5 hx
                    have h2 : x = w5.heap.size := Option.some.inj (e.symm.trans q)
                    omega
                have z6 : w5.heap.size ≤ w6.heap.size := hgrow3.size
                replace e1 := e1.below b5
                replace e2 := e2.below b5
                replace e1 : At 33 w6 w.heap.size #[.slice none 0 0, .slice none 0 0] := (hgrow3.block _ e1.lt (fun e => by have := bT _ e.symm; omega)).trans e1
                replace e2 : At 33 w6 W1.heap.size #[.slice va2 (3 * C + 3) vc2, .slice ua C uc] := (hgrow3.block _ e2.lt (fun e => by have := bT _ e.symm; omega)).trans e2
                replace B := (B.trans (b5.mono B.size)).grown hgrow3 (by omega) (fun x hx => by have := bT _ hx; omega)
                clear hown3 hgrow3 hblk3 bT hap1 b5
                obtain ⟨d0, d1, f0, f1⟩ := e2.open2
                have n1 : (C : Int) + 1 ≤ 201 := by omega
                go_wp2
                refine ⟨⟨i + 1, i + 1, C + 1, fu, cat3 M (3 * C) row, snoc T C t, va2, ua2, vc2, uc2, ?_, by go_num, by go_num, by go_num, HN, at_set e1 (by omega) _, by simpa [Nat.mul_add] using e2.set 1 (.slice ua2 (C + 1) uc2), own_set oM6 s2 _, own_set ho3 s2 _, hap2, B.setCell (Nat.le_of_lt s1) _⟩, by simp [intOf]; omega⟩
                have zz : (w6.setCell ⟨W1.heap.size, 1, none⟩ (.slice ua2 (C + 1) uc2)).heap.size = w6.heap.size := by simp [World.setCell]
                omega
              · obtain rfl : ok = false := by simpa using hok
                rw [if_neg (by simp)] at hst
                subst hst
                obtain ⟨d0, d1, f0, f1⟩ := a1.open2
                go_wp2
                have a8 := nil2_at a1 (.slice none 0 0) (.slice none 0 0)
                obtain ⟨p0, p1, -⟩ := a8.open2
                exact bodyPost_ret (v := .tuple #[.agg #[.slice none 0 0, .slice none 0 0], .int .i64 (K : Int)]) (by simp [results, Try.results68, go_sem, p0, p1]) rfl ⟨_, rfl, told_none _ _ _ _ _, (B.setCell (Nat.le_refl w.heap.size) _).setCell (Nat.le_refl w.heap.size) _⟩
        · have h1 : ¬ (i : Int) < (s.size : Int) := by omega
          clear hgo
          go_wp2
          go_loopw [8, 9] (fun t j wx => ∃ d : Nat, d ≤ i - K ∧ t = .string (unb s K d) ∧ j = .int .i64 ((K + d : Nat) : Int) ∧ wr = wx) (fun _ j _ => i - (intOf j).toNat)
          case atStart => exact ⟨0, Nat.zero_le _, rfl, rfl, rfl⟩
          case round =>
            obtain ⟨d, hd, rfl, rfl, rfl⟩ := hrel
            have hus := unb_size s K d
            by_cases hdl : K + d < i
            · have q1 : ((K + d : Nat) : Int) < (i : Int) := by omega
              have hun : Hid ((if byt s (K + d) = 32 then unb s K d else unb s K d ++ s.extract (K + d) (K + d + 1)) = unb s K (d + 1)) := rfl
              obtain ⟨y, hy⟩ : ∃ y, K + d = y := ⟨_, rfl⟩
              rw [hy] at q1 hun ⊢
              have hyl : y + 1 ≤ s.size := by omega
              have hbt := byt_at s y (by omega)
              have hyl' : (y : Int) + 1 ≤ (s.size : Int) := by omega
              have hyl'' : (y : Int) < (s.size : Int) := by omega
              obtain ⟨b, hb2⟩ : ∃ b, byt s y = b := ⟨_, rfl⟩
              rw [hb2] at hbt hun
              clear hb2
              by_cases h32 : b = 32
              · subst h32
                have hun2 := hun.out
                rw [if_pos rfl] at hun2
                have HU : Hid (unb s K d = unb s K (d + 1)) := hun2
                clear hun2 hun
                go_wp2
                exact ⟨⟨d + 1, by omega, by rw [← HU.out], by rw [← hy]; go_num, by trivial⟩, by simp [intOf]; omega⟩
              · have e32 : ((b : Int) == 32) = false := by simp; omega
                have e32' : ((b : Int) != 32) = true := by simp; omega
                have hun2 := hun.out
                rw [if_neg h32] at hun2
                have HU : Hid (unb s K d ++ s.extract y (y + 1) = unb s K (d + 1)) := hun2
                clear hun2 hun
                have hy0 : (0 : Int) ≤ (y : Int) := by omega
                have hy1 : (y : Int) ≤ (y : Int) + 1 := by omega
                have hyn : ((y : Int) + 1).toNat = y + 1 := by omega
                have hsl : ∀ wx : World, (Instr.slice 9 (.string s) (some (.int .i64 (y : Int))) (some (.int .i64 ((y : Int) + 1))) none).run Try.prog wx = .ok (.string (s.extract y (y + 1))) wx := by
                  intro wx
                  have h := run_slice_string (P := Try.prog) (w := wx) 9 s .i64 .i64 (y : Int) ((y : Int) + 1) Try.underlying9 hy0 hy1 hyl'
                  rw [hyn] at h
                  simpa using h
                go_wp2
                exact ⟨⟨d + 1, by omega, by rw [← HU.out], by rw [← hy]; go_num, by trivial⟩, by simp [intOf]; omega⟩
            · have q1 : ¬ ((K + d : Nat) : Int) < (i : Int) := by omega
              obtain rfl : d = i - K := by omega
              have hte := term_any (unb s K (i - K)) wr (by omega)
              obtain ⟨r, hr⟩ : ∃ r, termF (unb s K (i - K)) ((unb s K (i - K)).size + 2) 0 (fun _ => 0) 0 false = r := ⟨_, rfl⟩
              rw [hr] at hte hst
              obtain ⟨u, hu⟩ : ∃ u, unb s K (i - K) = u := ⟨_, rfl⟩
              rw [hu] at hte ⊢
              clear hr hu hus
              go_wp2_with fail
              refine hte.mono ?_
              rintro e w3 ⟨g, rfl, hg, ag, b3⟩
              replace a1 := a1.below b3
              replace a2 := a2.below b3
              replace oM := own_below oM b3
              replace oT := own_below oT b3
              replace B := B.trans (b3.mono B.size)
              have s3 := b3.size
              clear b3 hte
              obtain ⟨row, t, ok⟩ := r
              dsimp only at hst ag ⊢
              by_cases hok : ok = true
              · subst hok
                rw [if_pos rfl] at hst
                have HN : Hid (readF s fu (i + 1) (i + 1) (C + 1) (cat3 M (3 * C) row) (snoc T C t) = R) := hst
                clear hst
                obtain ⟨d0, d1, f0, f1⟩ := a2.open2
                have hri := row_ints ag
                have hm1 : 3 * C + 3 ≤ maxLen := by unfold maxLen; omega
                have hm2 : (3 * C + 3) * 8 ≤ 140737488355328 := by omega
                have hm3 : W2.heap.size ≤ w3.heap.size := by omega
                go_wp2_with (at_builtin; refine wpList_append_own_at _ rfl _ _ _ rfl W2.heap.size 2 i0 _ 1 8 Try.underlying31 hi0 hz0 hz1 hz2 rfl (by omega) (.slice va (3 * C) vc) (3 * C) (iCells M (3 * C)) rfl oM ⟨g, 0, none⟩ 3 3 (iCells row 3) rfl (by simp [iCells_len]) (ints_news hri) (iCells_one row 3) hm1 hm2 hm3 ?_; intro v2 w2 hown2 hgrow2 hne2 hblk2; refine Hid.out (?_ : Hid _))
                refine (?_ : wpList _ _ _ _ _ _)
                clear d0 d1 f0 f1 hri ag hm1 hm2 hne2
                have ho2 : w2.ownsRow W2.heap.size 2 1 v2 (3 * C + 3) (iCells (cat3 M (3 * C) row) (3 * C + 3)) := by rw [iCells_cat3]; exact hown2
                obtain ⟨va2, vc2, rfl⟩ := own_form ho2
                have bM := fun x (hx : (Value.slice va (3 * C) vc).ownBlock = some x) => ownBlock_ge oM hx
                have oT2 := own_far' oT hgrow2 hap.out
                have hap1 : Hid (∀ x, (Value.slice va2 (3 * C + 3) vc2).ownBlock = some x → (Value.slice ua C uc).ownBlock ≠ some x) := by
                  intro x hx e
                  rcases hblk2 with q | q
                  · exact hap.out x (q.symm.trans hx) e
                  · have h1 := ownBlock_lt oT e
                    have h2 : x = w3.heap.size := Option.some.inj (hx.symm.trans q)
                    omega
                have z2 : w3.heap.size ≤ w2.heap.size := hgrow2.size
                replace a1 : At 33 w2 w.heap.size #[.slice none 0 0, .slice none 0 0] := (hgrow2.block _ a1.lt (fun e => by have := bM _ e.symm; omega)).trans a1
                replace a2 : At 33 w2 W1.heap.size #[.slice va (3 * C) vc, .slice ua C uc] := (hgrow2.block _ a2.lt (fun e => by have := bM _ e.symm; omega)).trans a2
                replace B := B.grown hgrow2 (by omega) (fun x hx => by have := bM _ hx; omega)
                clear hown2 hgrow2 hblk2 oM oT hap bM
                obtain ⟨d0, d1, f0, f1⟩ := a2.open2
                obtain ⟨w4, hw4⟩ : ∃ w4, w2.setCell ⟨W1.heap.size, 0, none⟩ (.slice va2 (3 * C + 3) vc2) = w4 := ⟨_, rfl⟩
                have z4 : w4.heap.size = w2.heap.size := by rw [← hw4]; simp [World.setCell]
                have e1 : At 33 w4 w.heap.size #[.slice none 0 0, .slice none 0 0] := by rw [← hw4]; exact at_set a1 (by omega) _
                have e2 : At 33 w4 W1.heap.size #[.slice va2 (3 * C + 3) vc2, .slice ua C uc] := by rw [← hw4]; simpa using a2.set 0 (.slice va2 (3 * C + 3) vc2)
                have oM4 : w4.ownsRow W2.heap.size 2 1 (.slice va2 (3 * C + 3) vc2) (3 * C + 3) (iCells (cat3 M (3 * C) row) (3 * C + 3)) := by rw [← hw4]; exact own_set ho2 s2 _
                have oT4 : w4.ownsRow W2.heap.size 2 1 (.slice ua C uc) C (iCells T C) := by rw [← hw4]; exact own_set oT2 s2 _
                replace B : Below w.heap.size w w4 := by rw [← hw4]; exact B.setCell (Nat.le_of_lt s1) _
                obtain ⟨w5, hw5, a5, b5, -⟩ := boxed w4 2 #[.int .i64 t]
                obtain ⟨r0, r1, r2, r3⟩ := e2.open2
                have oM5 := own_below oM4 b5
                have oT5 := own_below oT4 b5
                have z5 := b5.size
                have hm4 : C + 1 ≤ maxLen := by unfold maxLen; omega
                have hm5 : (C + 1) * 8 ≤ 140737488355328 := by omega
                have hm6 : W2.heap.size ≤ w5.heap.size := by omega
                have hnw : ∀ j u, [Value.int .i64 t][j]? = some u → w5.cell? ((⟨w2.heap.size, 0, none⟩ : Addr).add j) = some u := by
                  intro j u hu
                  cases j with
                  | zero => cases hu; rw [← z4]; exact a5.cell 0 rfl
                  | succ j => cases hu
                have h1c : ∀ u ∈ [Value.int .i64 t], u.oneCell' = true := by
                  intro u hu
                  rw [List.mem_singleton] at hu
                  rw [hu]
                  rfl
                go_wp2_with (at_builtin; refine Hid.out (?_ : Hid _))
                refine (?_ : wpList _ _ _ _ _ _)
                refine wpList_append_own_at _ rfl _ _ _ rfl W2.heap.size 2 i0 _ 1 8 Try.underlying31 hi0 hz0 hz1 hz2 rfl (by omega) (.slice ua C uc) C (iCells T C) rfl oT5 ⟨w2.heap.size, 0, none⟩ 1 1 [.int .i64 t] rfl rfl hnw h1c hm4 hm5 hm6 ?_
                intro v3 w6 hown3 hgrow3 hne3 hblk3
                clear d0 d1 f0 f1 r0 r1 r2 r3 hw4 hw5 hnw hm4 hm5 hne3
                have ho3 : w6.ownsRow W2.heap.size 2 1 v3 (C + 1) (iCells (snoc T C t) (C + 1)) := by rw [iCells_snoc']; exact hown3
                obtain ⟨ua2, uc2, rfl⟩ := own_form ho3
                have bT := fun x (hx : (Value.slice ua C uc).ownBlock = some x) => ownBlock_ge oT5 hx
                have oM6 := own_far' oM5 hgrow3 (fun x hx e => hap1.out x e hx)
                have hap2 : Hid (∀ x, (Value.slice va2 (3 * C + 3) vc2).ownBlock = some x → (Value.slice ua2 (C + 1) uc2).ownBlock ≠ some x) := by
                  intro x hx e
                  rcases hblk3 with q | q
                  · exact hap1.out x hx (q.symm.trans e)
                  · have h1 := ownBlock_lt oM5 hx
                    have h2 : x = w5.heap.size := Option.some.inj (e.symm.trans q)
                    omega
                have z6 : w5.heap.size ≤ w6.heap.size := hgrow3.size
                replace e1 := e1.below b5
                replace e2 := e2.below b5
                replace e1 : At 33 w6 w.heap.size #[.slice none 0 0, .slice none 0 0] := (hgrow3.block _ e1.lt (fun e => by have := bT _ e.symm; omega)).trans e1
                replace e2 : At 33 w6 W1.heap.size #[.slice va2 (3 * C + 3) vc2, .slice ua C uc] := (hgrow3.block _ e2.lt (fun e => by have := bT _ e.symm; omega)).trans e2
                replace B := (B.trans (b5.mono B.size)).grown hgrow3 (by omega) (fun x hx => by have := bT _ hx; omega)
                clear hown3 hgrow3 hblk3 bT hap1 b5
                obtain ⟨d0, d1, f0, f1⟩ := e2.open2
                have n1 : (C : Int) + 1 ≤ 201 := by omega
                go_wp2
                refine ⟨⟨i + 1, i + 1, C + 1, fu, cat3 M (3 * C) row, snoc T C t, va2, ua2, vc2, uc2, ?_, by go_num, by go_num, by go_num, HN, at_set e1 (by omega) _, by simpa [Nat.mul_add] using e2.set 1 (.slice ua2 (C + 1) uc2), own_set oM6 s2 _, own_set ho3 s2 _, hap2, B.setCell (Nat.le_of_lt s1) _⟩, by simp [intOf]; omega⟩
                have zz : (w6.setCell ⟨W1.heap.size, 1, none⟩ (.slice ua2 (C + 1) uc2)).heap.size = w6.heap.size := by simp [World.setCell]
                omega
              · obtain rfl : ok = false := by simpa using hok
                rw [if_neg (by simp)] at hst
                subst hst
                obtain ⟨d0, d1, f0, f1⟩ := a1.open2
                go_wp2
                have a8 := nil2_at a1 (.slice none 0 0) (.slice none 0 0)
                obtain ⟨p0, p1, -⟩ := a8.open2
                exact bodyPost_ret (v := .tuple #[.agg #[.slice none 0 0, .slice none 0 0], .int .i64 (K : Int)]) (by simp [results, Try.results68, go_sem, p0, p1]) rfl ⟨_, rfl, told_none _ _ _ _ _, (B.setCell (Nat.le_refl w.heap.size) _).setCell (Nat.le_refl w.heap.size) _⟩
end Go.Proofs.Ytpolnkjmojofoaa
