/-
  The library's sort at structs of three numbers: its contract laid over this program.
-/
import Derived.Test.YtehbpcoiciodhaaGreatK3cP
import Derived.Test.YtehbpcoiciodhaaGreatMK
import Derived.Test.YtehbpcoiciodhaaGreatK3pP
namespace Go.Proofs.YtehbpcoiciodhaaGreat
open Go.RowKit Go.Shelf Go.Sort Go.Lib

def sortRP : Go.Shelf.Ren := ⟨fun | 6 => 72 | 15 => 90 | 14 => 104 | 28 => 124 | 29 => 125 | 20 => 139 | 21 => 140 | 22 => 141 | 23 => 142 | 24 => 143 | 25 => 144 | 26 => 145 | 27 => 146 | 46 => 162 | 47 => 152 | 48 => 153 | 49 => 163 | 50 => 164 | 57 => 171 | n => n, fun | 22 => 26 | 24 => 30 | 25 => 112 | 3 => 3 | 39 => 131 | 0 => 0 | 53 => 165 | 55 => 167 | 4 => 4 | 46 => 158 | 45 => 157 | 50 => 162 | 5 => 5 | 9 => 9 | 66 => 188 | 70 => 192 | 76 => 204 | 77 => 205 | n => n, fun | n => n⟩
theorem sortLP : Go.Proofs.SlLaysF0.n6 Tryz.prog sortRP := {
  mixed := by kernel_rfl,
  f6 := ⟨Tryz.f72.name, by decide, Tryz.func72.trans (congrArg some (by kernel_rfl))⟩,
  f14 := ⟨Tryz.f104.name, by decide, Tryz.func104.trans (congrArg some (by kernel_rfl))⟩,
  f15 := Tryz.func90.trans (congrArg some (by kernel_rfl)),
  f20 := ⟨Tryz.f139.name, by decide, Tryz.func139.trans (congrArg some (by kernel_rfl))⟩,
  f21 := ⟨Tryz.f140.name, by decide, Tryz.func140.trans (congrArg some (by kernel_rfl))⟩,
  f22 := ⟨Tryz.f141.name, by decide, Tryz.func141.trans (congrArg some (by kernel_rfl))⟩,
  f23 := ⟨Tryz.f142.name, by decide, Tryz.func142.trans (congrArg some (by kernel_rfl))⟩,
  f24 := ⟨Tryz.f143.name, by decide, Tryz.func143.trans (congrArg some (by kernel_rfl))⟩,
  f25 := ⟨Tryz.f144.name, by decide, Tryz.func144.trans (congrArg some (by kernel_rfl))⟩,
  f26 := ⟨Tryz.f145.name, by decide, Tryz.func145.trans (congrArg some (by kernel_rfl))⟩,
  f27 := ⟨Tryz.f146.name, by decide, Tryz.func146.trans (congrArg some (by kernel_rfl))⟩,
  f28 := Tryz.func124.trans (congrArg some (by kernel_rfl)),
  f29 := Tryz.func125.trans (congrArg some (by kernel_rfl)),
  f46 := ⟨Tryz.f162.name, by decide, Tryz.func162.trans (congrArg some (by kernel_rfl))⟩,
  f47 := Tryz.func152.trans (congrArg some (by kernel_rfl)),
  f48 := Tryz.func153.trans (congrArg some (by kernel_rfl)),
  f49 := ⟨Tryz.f163.name, by decide, Tryz.func163.trans (congrArg some (by kernel_rfl))⟩,
  f50 := ⟨Tryz.f164.name, by decide, Tryz.func164.trans (congrArg some (by kernel_rfl))⟩,
  f57 := ⟨Tryz.f171.name, by decide, Tryz.func171.trans (congrArg some (by kernel_rfl))⟩,
  t0 := Tryz.underlying0,
  a0 := Tryz.isAgg0,
  z0 := Tryz.sizeOf0,
  v0 := Tryz.zeroValue0,
  t3 := Tryz.underlying3,
  a3 := Tryz.isAgg3,
  z3 := Tryz.sizeOf3,
  v3 := Tryz.zeroValue3,
  t4 := Tryz.underlying4,
  a4 := Tryz.isAgg4,
  z4 := Tryz.sizeOf4,
  v4 := Tryz.zeroValue4,
  t5 := Tryz.underlying5,
  a5 := Tryz.isAgg5,
  z5 := Tryz.sizeOf5,
  v5 := Tryz.zeroValue5,
  t9 := Tryz.underlying9,
  a9 := Tryz.isAgg9,
  z9 := Tryz.sizeOf9,
  v9 := Tryz.zeroValue9,
  t22 := Tryz.underlying26,
  a22 := Tryz.isAgg26,
  z22 := Tryz.sizeOf26,
  v22 := Tryz.zeroValue26,
  t25 := Tryz.underlying112,
  a25 := Tryz.isAgg112,
  z25 := Tryz.sizeOf112,
  v25 := Tryz.zeroValue112,
  t39 := Tryz.underlying131,
  a39 := Tryz.isAgg131,
  z39 := Tryz.sizeOf131,
  v39 := Tryz.zeroValue131,
  t45 := Tryz.underlying157,
  a45 := Tryz.isAgg157,
  z45 := Tryz.sizeOf157,
  v45 := Tryz.zeroValue157,
  t46 := Tryz.underlying158,
  a46 := Tryz.isAgg158,
  z46 := Tryz.sizeOf158,
  v46 := Tryz.zeroValue158,
  t50 := Tryz.underlying162,
  a50 := Tryz.isAgg162,
  z50 := Tryz.sizeOf162,
  v50 := Tryz.zeroValue162,
  t53 := Tryz.underlying165,
  a53 := Tryz.isAgg165,
  z53 := Tryz.sizeOf165,
  v53 := Tryz.zeroValue165,
  t55 := Tryz.underlying167,
  a55 := Tryz.isAgg167,
  z55 := Tryz.sizeOf167,
  v55 := Tryz.zeroValue167,
  t66 := Tryz.underlying188,
  a66 := Tryz.isAgg188,
  z66 := Tryz.sizeOf188,
  v66 := Tryz.zeroValue188,
  t70 := Tryz.underlying192,
  a70 := Tryz.isAgg192,
  z70 := Tryz.sizeOf192,
  v70 := Tryz.zeroValue192,
  t76 := Tryz.underlying204,
  a76 := Tryz.isAgg204,
  z76 := Tryz.sizeOf204,
  v76 := Tryz.zeroValue204,
  t77 := Tryz.underlying205,
  a77 := Tryz.isAgg205,
  z77 := Tryz.sizeOf205,
  v77 := Tryz.zeroValue205 }
theorem C3.cellT {w : World} {g c : Nat} {d : Array T3} (h : C3 w g c d) {t : Nat} (ht : t < d.size * 3) : w.cell? ⟨g, t, none⟩ = some (.int .i64 (t3f d[t / 3]! (t % 3))) := by
  obtain ⟨cur, a, hs, hd⟩ := h
  have hi : t / 3 < d.size := by omega
  obtain ⟨p0, p1, p2⟩ := hd (t / 3) hi
  rcases (by omega : t % 3 = 0 ∨ t % 3 = 1 ∨ t % 3 = 2) with e | e | e <;> rw [e]
  · have := a.cell _ p0
    rwa [show t / 3 * 3 = t by omega] at this
  · have := a.cell _ p1
    rwa [show t / 3 * 3 + 1 = t by omega] at this
  · have := a.cell _ p2
    rwa [show t / 3 * 3 + 2 = t by omega] at this
theorem holdsP {w : World} {g c : Nat} {d : Array T3} (h : C3 w g c d) : HoldsK e3 3 w g 0 d := by
  intro t ht
  rw [size_flatK] at ht
  rw [get_flatK _ _ _ _ ht, e3_get _ _ (by omega)]
  have h1 := h.cellT ht
  obtain ⟨cur, a, -⟩ := h
  exact ⟨by rw [Nat.zero_add]; exact h1, a.frozen _⟩
theorem sortedP {w : World} {g c m : Nat} {d d' : Array T3} {os : Array Obj} (h : C3 w g c d) (hs : d'.size = d.size) (hc : d.size ≤ c) : C3 (sortWorldK e3 3 w g 0 m d' os) g c d' ∧ Kept g w (sortWorldK e3 3 w g 0 m d' os) := by
  obtain ⟨cur, hh, hsz, hd⟩ := h
  have hlt : g < w.heap.size := hh.lt
  have hg : (sortWorldK e3 3 w g 0 m d' os).heap[g]? = some (.cells (putCells id 0 (flatK e3 3 d') cur) 30 (0, 0)) := by
    unfold sortWorldK grow putRowK putRow mapBlock Go.Sort.ahead
    dsimp only
    rw [Array.getElem?_append_left (by simpa using hlt), Array.getElem?_modify, hh]
    simp [onCells]
  have hc3 : d.size * 3 ≤ c * 3 := Nat.mul_le_mul_right 3 hc
  refine ⟨⟨_, hg, by simpa [putCells] using hsz, fun i hi => ?_⟩, ?_⟩
  · have hsf : (flatK e3 3 d').size = d'.size * 3 := by rw [size_flatK]
    have get : ∀ t, t < d'.size * 3 → (putCells id 0 (flatK e3 3 d') cur)[t]? = some (.int .i64 (t3f d'[t / 3]! (t % 3))) := fun t ht => by
      have hl : t < cur.size := by omega
      have hfl := get_flatK e3 3 d' t ht
      simp only [putCells, Array.getElem?_mapIdx, Array.getElem?_eq_getElem hl, Option.map_some]
      rw [if_pos ⟨Nat.zero_le _, by omega⟩, Nat.sub_zero, hfl, e3_get _ _ (by omega)]
      rfl
    have g0 := get (i * 3) (by omega)
    have g1 := get (i * 3 + 1) (by omega)
    have g2 := get (i * 3 + 2) (by omega)
    rw [show i * 3 / 3 = i by omega, show i * 3 % 3 = 0 by omega] at g0
    rw [show (i * 3 + 1) / 3 = i by omega, show (i * 3 + 1) % 3 = 1 by omega] at g1
    rw [show (i * 3 + 2) / 3 = i by omega, show (i * 3 + 2) % 3 = 2 by omega] at g2
    exact ⟨g0, g1, g2⟩
  · refine ⟨rfl, rfl, rfl, ?_, fun k hk hne => ?_⟩
    · unfold sortWorldK grow putRowK putRow mapBlock Go.Sort.ahead
      simp
    · unfold sortWorldK grow putRowK putRow mapBlock Go.Sort.ahead
      dsimp only
      rw [Array.getElem?_append_left (by simpa using hk), Array.getElem?_modify, if_neg (fun e => hne (by rw [e]))]
theorem cmpLaysP (blk off size : Nat) (w : World) : CmpLays Tryz.prog 73 #[] e3 3 c3 blk off size w := by
  intro m os dk _ x y
  exact cmpP_any x y (sortWorldK e3 3 w blk off m dk os)
theorem sortP_any {w : World} {g c n : Nat} {d : Array T3} (h : C3 w g c d) (hd : d.size = n) (hn : n ≤ 1000) (hc : n ≤ c) :
    Calls Tryz.prog 72 #[.slice (some ⟨g, 0, none⟩) n c, .func (.func 73) #[] #[]] w fun e w' => e = .returned (.tuple #[]) ∧ (∃ d' : Array T3, d'.size = n ∧ d'.toList.Perm d.toList ∧ (∀ i j, i < j → j < n → ¬ c3 d'[j]! d'[i]! < 0) ∧ C3 w' g c d') ∧ Kept g w w' := by
  obtain ⟨cur, a, -⟩ := id h
  have hlt := a.lt
  have eg : ∀ args w, (callFunc 73 args).run Tryz.prog w = .ok (.enter 73 args) w := enters_of Tryz.func73 (by kernel_rfl) rfl
  have hr := AnyQ.slices_SortFunc sortLP 3 Tryz.isAgg30 Tryz.sizeOf30 e3 (fun _ => rfl) e3_one c3 c3_swo 73 #[] g 0 c d w eg (cmpLaysP g 0 d.size w) (holdsP h) hlt (by omega)
  rw [hd] at hr
  refine hr.mono ?_
  rintro e w' ⟨rfl, d', m, os, hp, hso, rfl⟩
  have hd' : d'.size = n := hp.1.trans hd
  obtain ⟨h1, h2⟩ := sortedP (m := m) (os := os) h (hd'.trans hd.symm) (by omega)
  refine ⟨rfl, ⟨d', hd', ?_, fun i j hij hj hlt => ?_, h1⟩, h2⟩
  · have e1 : ∀ x : Array T3, x.size = n → (x.extract 0 n).toList = x.toList := fun x hx => by
      have := Array.extract_size (xs := x)
      rw [hx] at this
      rw [this]
    have := hp.2.2
    rwa [e1 d' hd', e1 d hd] at this
  · have := hso i j (Nat.zero_le _) hij hj
    unfold ltOf at this
    rw [decide_eq_false_iff_not] at this
    exact this hlt
end Go.Proofs.YtehbpcoiciodhaaGreat
