/-
  The library's sort at sites: its contract laid over this program.
-/
import Derived.Test.YtgjhbkpocbihbaaGreatK2p
import Derived.Test.YtgjhbkpocbihbaaGreatMK
import Derived.Test.YtgjhbkpocbihbaaGreatRSite
namespace Go.Proofs.YtgjhbkpocbihbaaGreat
open Go.RowKit Go.Shelf Go.Sort Go.Lib

/-- Sites lie in block g. -/
def CS2 (w : World) (g c : Nat) (d : Array Q2) : Prop := ∃ cur, At 31 w g cur ∧ cur.size = c * 2 ∧ ∀ i, i < d.size → cur[i * 2]? = some (.int .i64 d[i]!.1) ∧ cur[i * 2 + 1]? = some (.int .i64 d[i]!.2)
def sortRS : Go.Shelf.Ren := ⟨fun | 6 => 65 | 15 => 93 | 14 => 92 | 28 => 119 | 29 => 120 | 20 => 111 | 21 => 112 | 22 => 113 | 23 => 114 | 24 => 115 | 25 => 116 | 26 => 117 | 27 => 118 | 46 => 142 | 47 => 143 | 48 => 144 | 49 => 145 | 50 => 146 | 57 => 154 | n => n, fun | 22 => 27 | 24 => 31 | 25 => 112 | 3 => 3 | 39 => 137 | 0 => 0 | 53 => 164 | 55 => 166 | 4 => 4 | 46 => 157 | 45 => 156 | 50 => 161 | 5 => 5 | 9 => 9 | 66 => 184 | 70 => 188 | 76 => 198 | 77 => 199 | n => n, fun | n => n⟩
theorem sortLS : Go.Proofs.SlLaysF0.n6 Tryz.prog sortRS := {
  mixed := by kernel_rfl,
  f6 := ⟨Tryz.f65.name, by decide, Tryz.func65.trans (congrArg some (by kernel_rfl))⟩,
  f14 := ⟨Tryz.f92.name, by decide, Tryz.func92.trans (congrArg some (by kernel_rfl))⟩,
  f15 := Tryz.func93.trans (congrArg some (by kernel_rfl)),
  f20 := ⟨Tryz.f111.name, by decide, Tryz.func111.trans (congrArg some (by kernel_rfl))⟩,
  f21 := ⟨Tryz.f112.name, by decide, Tryz.func112.trans (congrArg some (by kernel_rfl))⟩,
  f22 := ⟨Tryz.f113.name, by decide, Tryz.func113.trans (congrArg some (by kernel_rfl))⟩,
  f23 := ⟨Tryz.f114.name, by decide, Tryz.func114.trans (congrArg some (by kernel_rfl))⟩,
  f24 := ⟨Tryz.f115.name, by decide, Tryz.func115.trans (congrArg some (by kernel_rfl))⟩,
  f25 := ⟨Tryz.f116.name, by decide, Tryz.func116.trans (congrArg some (by kernel_rfl))⟩,
  f26 := ⟨Tryz.f117.name, by decide, Tryz.func117.trans (congrArg some (by kernel_rfl))⟩,
  f27 := ⟨Tryz.f118.name, by decide, Tryz.func118.trans (congrArg some (by kernel_rfl))⟩,
  f28 := Tryz.func119.trans (congrArg some (by kernel_rfl)),
  f29 := Tryz.func120.trans (congrArg some (by kernel_rfl)),
  f46 := ⟨Tryz.f142.name, by decide, Tryz.func142.trans (congrArg some (by kernel_rfl))⟩,
  f47 := Tryz.func143.trans (congrArg some (by kernel_rfl)),
  f48 := Tryz.func144.trans (congrArg some (by kernel_rfl)),
  f49 := ⟨Tryz.f145.name, by decide, Tryz.func145.trans (congrArg some (by kernel_rfl))⟩,
  f50 := ⟨Tryz.f146.name, by decide, Tryz.func146.trans (congrArg some (by kernel_rfl))⟩,
  f57 := ⟨Tryz.f154.name, by decide, Tryz.func154.trans (congrArg some (by kernel_rfl))⟩,
  t0 := Tryz.underlying0,
  a0 := Tryz.isAgg0,
  z0 := Tryz.sizeOf0,
  v0 := Tryz.zeroValue0,
  t3 := Tryz.underlying3,
  a3 := Tryz.isAgg3,
  z3 := Tryz.sizeOf3,
  v3 := Tryz.zeroValue3,
  t4 := Tryz.underlying4,
  a4 := Tryz.isAgg4,
  z4 := Tryz.sizeOf4,
  v4 := Tryz.zeroValue4,
  t5 := Tryz.underlying5,
  a5 := Tryz.isAgg5,
  z5 := Tryz.sizeOf5,
  v5 := Tryz.zeroValue5,
  t9 := Tryz.underlying9,
  a9 := Tryz.isAgg9,
  z9 := Tryz.sizeOf9,
  v9 := Tryz.zeroValue9,
  t22 := Tryz.underlying27,
  a22 := Tryz.isAgg27,
  z22 := Tryz.sizeOf27,
  v22 := Tryz.zeroValue27,
  t25 := Tryz.underlying112,
  a25 := Tryz.isAgg112,
  z25 := Tryz.sizeOf112,
  v25 := Tryz.zeroValue112,
  t39 := Tryz.underlying137,
  a39 := Tryz.isAgg137,
  z39 := Tryz.sizeOf137,
  v39 := Tryz.zeroValue137,
  t45 := Tryz.underlying156,
  a45 := Tryz.isAgg156,
  z45 := Tryz.sizeOf156,
  v45 := Tryz.zeroValue156,
  t46 := Tryz.underlying157,
  a46 := Tryz.isAgg157,
  z46 := Tryz.sizeOf157,
  v46 := Tryz.zeroValue157,
  t50 := Tryz.underlying161,
  a50 := Tryz.isAgg161,
  z50 := Tryz.sizeOf161,
  v50 := Tryz.zeroValue161,
  t53 := Tryz.underlying164,
  a53 := Tryz.isAgg164,
  z53 := Tryz.sizeOf164,
  v53 := Tryz.zeroValue164,
  t55 := Tryz.underlying166,
  a55 := Tryz.isAgg166,
  z55 := Tryz.sizeOf166,
  v55 := Tryz.zeroValue166,
  t66 := Tryz.underlying184,
  a66 := Tryz.isAgg184,
  z66 := Tryz.sizeOf184,
  v66 := Tryz.zeroValue184,
  t70 := Tryz.underlying188,
  a70 := Tryz.isAgg188,
  z70 := Tryz.sizeOf188,
  v70 := Tryz.zeroValue188,
  t76 := Tryz.underlying198,
  a76 := Tryz.isAgg198,
  z76 := Tryz.sizeOf198,
  v76 := Tryz.zeroValue198,
  t77 := Tryz.underlying199,
  a77 := Tryz.isAgg199,
  z77 := Tryz.sizeOf199,
  v77 := Tryz.zeroValue199 }
theorem CS2.cellT {w : World} {g c : Nat} {d : Array Q2} (h : CS2 w g c d) {t : Nat} (ht : t < d.size * 2) : w.cell? ⟨g, t, none⟩ = some (.int .i64 (t2f d[t / 2]! (t % 2))) := by
  obtain ⟨cur, a, hs, hd⟩ := h
  have hi : t / 2 < d.size := by omega
  obtain ⟨p0, p1⟩ := hd (t / 2) hi
  rcases (by omega : t % 2 = 0 ∨ t % 2 = 1) with e | e <;> rw [e]
  · have := a.cell _ p0
    rwa [show t / 2 * 2 = t by omega] at this
  · have := a.cell _ p1
    rwa [show t / 2 * 2 + 1 = t by omega] at this
theorem holdsS2 {w : World} {g c : Nat} {d : Array Q2} (h : CS2 w g c d) : HoldsK e2 2 w g 0 d := by
  intro t ht
  rw [size_flatK] at ht
  rw [get_flatK _ _ _ _ ht, e2_get _ _ (by omega)]
  have h1 := h.cellT ht
  obtain ⟨cur, a, -⟩ := h
  exact ⟨by rw [Nat.zero_add]; exact h1, a.frozen _⟩
theorem sortedS2 {w : World} {g c m : Nat} {d d' : Array Q2} {os : Array Obj} (h : CS2 w g c d) (hs : d'.size = d.size) (hc : d.size ≤ c) : CS2 (sortWorldK e2 2 w g 0 m d' os) g c d' ∧ Kept g w (sortWorldK e2 2 w g 0 m d' os) := by
  obtain ⟨cur, hh, hsz, hd⟩ := h
  have hlt : g < w.heap.size := hh.lt
  have hg : (sortWorldK e2 2 w g 0 m d' os).heap[g]? = some (.cells (putCells id 0 (flatK e2 2 d') cur) 31 (0, 0)) := by
    unfold sortWorldK grow putRowK putRow mapBlock Go.Sort.ahead
    dsimp only
    rw [Array.getElem?_append_left (by simpa using hlt), Array.getElem?_modify, hh]
    simp [onCells]
  have hc3 : d.size * 2 ≤ c * 2 := Nat.mul_le_mul_right 2 hc
  refine ⟨⟨_, hg, by simpa [putCells] using hsz, fun i hi => ?_⟩, ?_⟩
  · have hsf : (flatK e2 2 d').size = d'.size * 2 := by rw [size_flatK]
    have get : ∀ t, t < d'.size * 2 → (putCells id 0 (flatK e2 2 d') cur)[t]? = some (.int .i64 (t2f d'[t / 2]! (t % 2))) := fun t ht => by
      have hl : t < cur.size := by omega
      have hfl := get_flatK e2 2 d' t ht
      simp only [putCells, Array.getElem?_mapIdx, Array.getElem?_eq_getElem hl, Option.map_some]
      rw [if_pos ⟨Nat.zero_le _, by omega⟩, Nat.sub_zero, hfl, e2_get _ _ (by omega)]
      rfl
    have g0 := get (i * 2) (by omega)
    have g1 := get (i * 2 + 1) (by omega)
    rw [show i * 2 / 2 = i by omega, show i * 2 % 2 = 0 by omega] at g0
    rw [show (i * 2 + 1) / 2 = i by omega, show (i * 2 + 1) % 2 = 1 by omega] at g1
    exact ⟨g0, g1⟩
  · refine ⟨rfl, rfl, rfl, ?_, fun k hk hne => ?_⟩
    · unfold sortWorldK grow putRowK putRow mapBlock Go.Sort.ahead
      simp
    · unfold sortWorldK grow putRowK putRow mapBlock Go.Sort.ahead
      dsimp only
      rw [Array.getElem?_append_left (by simpa using hk), Array.getElem?_modify, if_neg (fun e => hne (by rw [e]))]
theorem cmpLaysS2 (blk off size : Nat) (w : World) : CmpLays Tryz.prog 66 #[] e2 2 c2 blk off size w := by
  intro m os dk _ x y
  exact cmpS_any x y (sortWorldK e2 2 w blk off m dk os)
theorem sortS2_any {w : World} {g c n : Nat} {d : Array Q2} (h : CS2 w g c d) (hd : d.size = n) (hn : n ≤ 1000) (hc : n ≤ c) :
    Calls Tryz.prog 65 #[.slice (some ⟨g, 0, none⟩) n c, .func (.func 66) #[] #[]] w fun e w' => e = .returned (.tuple #[]) ∧ (∃ d' : Array Q2, d'.size = n ∧ d'.toList.Perm d.toList ∧ (∀ i j, i < j → j < n → ¬ c2 d'[j]! d'[i]! < 0) ∧ CS2 w' g c d') ∧ Kept g w w' := by
  obtain ⟨cur, a, -⟩ := id h
  have hlt := a.lt
  have eg : ∀ args w, (callFunc 66 args).run Tryz.prog w = .ok (.enter 66 args) w := enters_of Tryz.func66 (by kernel_rfl) rfl
  have hr := AnyQ.slices_SortFunc sortLS 2 Tryz.isAgg31 Tryz.sizeOf31 e2 (fun _ => rfl) e2_one c2 c2_swo 66 #[] g 0 c d w eg (cmpLaysS2 g 0 d.size w) (holdsS2 h) hlt (by omega)
  rw [hd] at hr
  refine hr.mono ?_
  rintro e w' ⟨rfl, d', m, os, hp, hso, rfl⟩
  have hd' : d'.size = n := hp.1.trans hd
  obtain ⟨h1, h2⟩ := sortedS2 (m := m) (os := os) h (hd'.trans hd.symm) (by omega)
  refine ⟨rfl, ⟨d', hd', ?_, fun i j hij hj hlt => ?_, h1⟩, h2⟩
  · have e1 : ∀ x : Array Q2, x.size = n → (x.extract 0 n).toList = x.toList := fun x hx => by
      have := Array.extract_size (xs := x)
      rw [hx] at this
      rw [this]
    have := hp.2.2
    rwa [e1 d' hd', e1 d hd] at this
  · have := hso i j (Nat.zero_le _) hij hj
    unfold ltOf at this
    rw [decide_eq_false_iff_not] at this
    exact this hlt
end Go.Proofs.YtgjhbkpocbihbaaGreat
