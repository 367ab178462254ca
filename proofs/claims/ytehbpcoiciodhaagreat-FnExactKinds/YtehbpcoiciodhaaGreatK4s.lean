/-
  The library's sort at kinds: its contract laid over this program.
-/
import Derived.Test.YtehbpcoiciodhaaGreatK4p
import Derived.Test.YtehbpcoiciodhaaGreatMK
import Derived.Test.YtehbpcoiciodhaaGreatRKind
namespace Go.Proofs.YtehbpcoiciodhaaGreat
open Go.RowKit Go.Shelf Go.Sort Go.Lib

/-- Kinds lie in block g. -/
def C4 (w : World) (g c : Nat) (d : Array Q4Kn) : Prop := ∃ cur, At 87 w g cur ∧ cur.size = c * 4 ∧ ∀ i, i < d.size → cur[i * 4]? = some (.int .i64 d[i]!.1) ∧ cur[i * 4 + 1]? = some (.int .i64 d[i]!.2.1) ∧ cur[i * 4 + 2]? = some (.int .i64 d[i]!.2.2.1) ∧ cur[i * 4 + 3]? = some (.int .i64 d[i]!.2.2.2)
def sortRK : Go.Shelf.Ren := ⟨fun | 6 => 57 | 15 => 90 | 14 => 100 | 28 => 124 | 29 => 125 | 20 => 131 | 21 => 132 | 22 => 133 | 23 => 134 | 24 => 135 | 25 => 136 | 26 => 137 | 27 => 138 | 46 => 159 | 47 => 152 | 48 => 153 | 49 => 160 | 50 => 161 | 57 => 170 | n => n, fun | 22 => 48 | 24 => 87 | 25 => 98 | 3 => 3 | 39 => 131 | 0 => 0 | 53 => 165 | 55 => 167 | 4 => 4 | 46 => 158 | 45 => 157 | 50 => 162 | 5 => 5 | 9 => 9 | 66 => 188 | 70 => 192 | 76 => 204 | 77 => 205 | n => n, fun | n => n⟩
theorem sortLK : Go.Proofs.SlLaysF0.n6 Tryz.prog sortRK := {
  mixed := by kernel_rfl,
  f6 := ⟨Tryz.f57.name, by decide, Tryz.func57.trans (congrArg some (by kernel_rfl))⟩,
  f14 := ⟨Tryz.f100.name, by decide, Tryz.func100.trans (congrArg some (by kernel_rfl))⟩,
  f15 := Tryz.func90.trans (congrArg some (by kernel_rfl)),
  f20 := ⟨Tryz.f131.name, by decide, Tryz.func131.trans (congrArg some (by kernel_rfl))⟩,
  f21 := ⟨Tryz.f132.name, by decide, Tryz.func132.trans (congrArg some (by kernel_rfl))⟩,
  f22 := ⟨Tryz.f133.name, by decide, Tryz.func133.trans (congrArg some (by kernel_rfl))⟩,
  f23 := ⟨Tryz.f134.name, by decide, Tryz.func134.trans (congrArg some (by kernel_rfl))⟩,
  f24 := ⟨Tryz.f135.name, by decide, Tryz.func135.trans (congrArg some (by kernel_rfl))⟩,
  f25 := ⟨Tryz.f136.name, by decide, Tryz.func136.trans (congrArg some (by kernel_rfl))⟩,
  f26 := ⟨Tryz.f137.name, by decide, Tryz.func137.trans (congrArg some (by kernel_rfl))⟩,
  f27 := ⟨Tryz.f138.name, by decide, Tryz.func138.trans (congrArg some (by kernel_rfl))⟩,
  f28 := Tryz.func124.trans (congrArg some (by kernel_rfl)),
  f29 := Tryz.func125.trans (congrArg some (by kernel_rfl)),
  f46 := ⟨Tryz.f159.name, by decide, Tryz.func159.trans (congrArg some (by kernel_rfl))⟩,
  f47 := Tryz.func152.trans (congrArg some (by kernel_rfl)),
  f48 := Tryz.func153.trans (congrArg some (by kernel_rfl)),
  f49 := ⟨Tryz.f160.name, by decide, Tryz.func160.trans (congrArg some (by kernel_rfl))⟩,
  f50 := ⟨Tryz.f161.name, by decide, Tryz.func161.trans (congrArg some (by kernel_rfl))⟩,
  f57 := ⟨Tryz.f170.name, by decide, Tryz.func170.trans (congrArg some (by kernel_rfl))⟩,
  t0 := Tryz.underlying0,
  a0 := Tryz.isAgg0,
  z0 := Tryz.sizeOf0,
  v0 := Tryz.zeroValue0,
  t3 := Tryz.underlying3,
  a3 := Tryz.isAgg3,
  z3 := Tryz.sizeOf3,
  v3 := Tryz.zeroValue3,
  t4 := Tryz.underlying4,
  a4 := Tryz.isAgg4,
  z4 := Tryz.sizeOf4,
  v4 := Tryz.zeroValue4,
  t5 := Tryz.underlying5,
  a5 := Tryz.isAgg5,
  z5 := Tryz.sizeOf5,
  v5 := Tryz.zeroValue5,
  t9 := Tryz.underlying9,
  a9 := Tryz.isAgg9,
  z9 := Tryz.sizeOf9,
  v9 := Tryz.zeroValue9,
  t22 := Tryz.underlying48,
  a22 := Tryz.isAgg48,
  z22 := Tryz.sizeOf48,
  v22 := Tryz.zeroValue48,
  t25 := Tryz.underlying98,
  a25 := Tryz.isAgg98,
  z25 := Tryz.sizeOf98,
  v25 := Tryz.zeroValue98,
  t39 := Tryz.underlying131,
  a39 := Tryz.isAgg131,
  z39 := Tryz.sizeOf131,
  v39 := Tryz.zeroValue131,
  t45 := Tryz.underlying157,
  a45 := Tryz.isAgg157,
  z45 := Tryz.sizeOf157,
  v45 := Tryz.zeroValue157,
  t46 := Tryz.underlying158,
  a46 := Tryz.isAgg158,
  z46 := Tryz.sizeOf158,
  v46 := Tryz.zeroValue158,
  t50 := Tryz.underlying162,
  a50 := Tryz.isAgg162,
  z50 := Tryz.sizeOf162,
  v50 := Tryz.zeroValue162,
  t53 := Tryz.underlying165,
  a53 := Tryz.isAgg165,
  z53 := Tryz.sizeOf165,
  v53 := Tryz.zeroValue165,
  t55 := Tryz.underlying167,
  a55 := Tryz.isAgg167,
  z55 := Tryz.sizeOf167,
  v55 := Tryz.zeroValue167,
  t66 := Tryz.underlying188,
  a66 := Tryz.isAgg188,
  z66 := Tryz.sizeOf188,
  v66 := Tryz.zeroValue188,
  t70 := Tryz.underlying192,
  a70 := Tryz.isAgg192,
  z70 := Tryz.sizeOf192,
  v70 := Tryz.zeroValue192,
  t76 := Tryz.underlying204,
  a76 := Tryz.isAgg204,
  z76 := Tryz.sizeOf204,
  v76 := Tryz.zeroValue204,
  t77 := Tryz.underlying205,
  a77 := Tryz.isAgg205,
  z77 := Tryz.sizeOf205,
  v77 := Tryz.zeroValue205 }
theorem C4.cellT {w : World} {g c : Nat} {d : Array Q4Kn} (h : C4 w g c d) {t : Nat} (ht : t < d.size * 4) : w.cell? ⟨g, t, none⟩ = some (.int .i64 (t4f d[t / 4]! (t % 4))) := by
  obtain ⟨cur, a, hs, hd⟩ := h
  have hi : t / 4 < d.size := by omega
  obtain ⟨p0, p1, p2, p3⟩ := hd (t / 4) hi
  rcases (by omega : t % 4 = 0 ∨ t % 4 = 1 ∨ t % 4 = 2 ∨ t % 4 = 3) with e | e | e | e <;> rw [e]
  · have := a.cell _ p0
    rwa [show t / 4 * 4 = t by omega] at this
  · have := a.cell _ p1
    rwa [show t / 4 * 4 + 1 = t by omega] at this
  · have := a.cell _ p2
    rwa [show t / 4 * 4 + 2 = t by omega] at this
  · have := a.cell _ p3
    rwa [show t / 4 * 4 + 3 = t by omega] at this
theorem holdsK4 {w : World} {g c : Nat} {d : Array Q4Kn} (h : C4 w g c d) : HoldsK e4 4 w g 0 d := by
  intro t ht
  rw [size_flatK] at ht
  rw [get_flatK _ _ _ _ ht, e4_get _ _ (by omega)]
  have h1 := h.cellT ht
  obtain ⟨cur, a, -⟩ := h
  exact ⟨by rw [Nat.zero_add]; exact h1, a.frozen _⟩
theorem sortedK4 {w : World} {g c m : Nat} {d d' : Array Q4Kn} {os : Array Obj} (h : C4 w g c d) (hs : d'.size = d.size) (hc : d.size ≤ c) : C4 (sortWorldK e4 4 w g 0 m d' os) g c d' ∧ Kept g w (sortWorldK e4 4 w g 0 m d' os) := by
  obtain ⟨cur, hh, hsz, hd⟩ := h
  have hlt : g < w.heap.size := hh.lt
  have hg : (sortWorldK e4 4 w g 0 m d' os).heap[g]? = some (.cells (putCells id 0 (flatK e4 4 d') cur) 87 (0, 0)) := by
    unfold sortWorldK grow putRowK putRow mapBlock Go.Sort.ahead
    dsimp only
    rw [Array.getElem?_append_left (by simpa using hlt), Array.getElem?_modify, hh]
    simp [onCells]
  have hc3 : d.size * 4 ≤ c * 4 := Nat.mul_le_mul_right 4 hc
  refine ⟨⟨_, hg, by simpa [putCells] using hsz, fun i hi => ?_⟩, ?_⟩
  · have hsf : (flatK e4 4 d').size = d'.size * 4 := by rw [size_flatK]
    have get : ∀ t, t < d'.size * 4 → (putCells id 0 (flatK e4 4 d') cur)[t]? = some (.int .i64 (t4f d'[t / 4]! (t % 4))) := fun t ht => by
      have hl : t < cur.size := by omega
      have hfl := get_flatK e4 4 d' t ht
      simp only [putCells, Array.getElem?_mapIdx, Array.getElem?_eq_getElem hl, Option.map_some]
      rw [if_pos ⟨Nat.zero_le _, by omega⟩, Nat.sub_zero, hfl, e4_get _ _ (by omega)]
      rfl
    have g0 := get (i * 4) (by omega)
    have g1 := get (i * 4 + 1) (by omega)
    have g2 := get (i * 4 + 2) (by omega)
    have g3 := get (i * 4 + 3) (by omega)
    rw [show i * 4 / 4 = i by omega, show i * 4 % 4 = 0 by omega] at g0
    rw [show (i * 4 + 1) / 4 = i by omega, show (i * 4 + 1) % 4 = 1 by omega] at g1
    rw [show (i * 4 + 2) / 4 = i by omega, show (i * 4 + 2) % 4 = 2 by omega] at g2
    rw [show (i * 4 + 3) / 4 = i by omega, show (i * 4 + 3) % 4 = 3 by omega] at g3
    exact ⟨g0, g1, g2, g3⟩
  · refine ⟨rfl, rfl, rfl, ?_, fun k hk hne => ?_⟩
    · unfold sortWorldK grow putRowK putRow mapBlock Go.Sort.ahead
      simp
    · unfold sortWorldK grow putRowK putRow mapBlock Go.Sort.ahead
      dsimp only
      rw [Array.getElem?_append_left (by simpa using hk), Array.getElem?_modify, if_neg (fun e => hne (by rw [e]))]
theorem cmpLaysK4 (blk off size : Nat) (w : World) : CmpLays Tryz.prog 58 #[] e4 4 c4 blk off size w := by
  intro m os dk _ x y
  exact cmpK_any x y (sortWorldK e4 4 w blk off m dk os)
theorem sortK4_any {w : World} {g c n : Nat} {d : Array Q4Kn} (h : C4 w g c d) (hd : d.size = n) (hn : n ≤ 1000) (hc : n ≤ c) :
    Calls Tryz.prog 57 #[.slice (some ⟨g, 0, none⟩) n c, .func (.func 58) #[] #[]] w fun e w' => e = .returned (.tuple #[]) ∧ (∃ d' : Array Q4Kn, d'.size = n ∧ d'.toList.Perm d.toList ∧ (∀ i j, i < j → j < n → ¬ c4 d'[j]! d'[i]! < 0) ∧ C4 w' g c d') ∧ Kept g w w' := by
  obtain ⟨cur, a, -⟩ := id h
  have hlt := a.lt
  have eg : ∀ args w, (callFunc 58 args).run Tryz.prog w = .ok (.enter 58 args) w := enters_of Tryz.func58 (by kernel_rfl) rfl
  have hr := AnyQ.slices_SortFunc sortLK 4 Tryz.isAgg87 Tryz.sizeOf87 e4 (fun _ => rfl) e4_one c4 c4_swo 58 #[] g 0 c d w eg (cmpLaysK4 g 0 d.size w) (holdsK4 h) hlt (by omega)
  rw [hd] at hr
  refine hr.mono ?_
  rintro e w' ⟨rfl, d', m, os, hp, hso, rfl⟩
  have hd' : d'.size = n := hp.1.trans hd
  obtain ⟨h1, h2⟩ := sortedK4 (m := m) (os := os) h (hd'.trans hd.symm) (by omega)
  refine ⟨rfl, ⟨d', hd', ?_, fun i j hij hj hlt => ?_, h1⟩, h2⟩
  · have e1 : ∀ x : Array Q4Kn, x.size = n → (x.extract 0 n).toList = x.toList := fun x hx => by
      have := Array.extract_size (xs := x)
      rw [hx] at this
      rw [this]
    have := hp.2.2
    rwa [e1 d' hd', e1 d hd] at this
  · have := hso i j (Nat.zero_le _) hij hj
    unfold ltOf at this
    rw [decide_eq_false_iff_not] at this
    exact this hlt
end Go.Proofs.YtehbpcoiciodhaaGreat
