/-
  A text without its blanks, as the specification makes it. No function of the program.
-/
import Derived.Test.YtpolnkjmojofoaaRt
namespace Go.Proofs.Ytpolnkjmojofoaa
open Go.RowKit

/-- The stretch of d bytes from place k on, without its blanks. -/
def unb (s : ByteArray) (k : Nat) : Nat → ByteArray
  | 0 => ByteArray.empty
  | d + 1 => if byt s (k + d) = 32 then unb s k d else unb s k d ++ s.extract (k + d) (k + d + 1)
theorem unb_size (s : ByteArray) (k d : Nat) : (unb s k d).size ≤ d := by
  induction d with
  | zero => simp [unb]
  | succ d ih =>
    unfold unb
    split
    · omega
    · rw [ByteArray.size_append, ByteArray.size_extract]
      omega
/-- A number more at the list's end. -/
def snoc (T : Nat → Int) (n : Nat) (x : Int) : Nat → Int := fun i => if i = n then x else T i
/-- Three numbers more at the list's end. -/
def cat3 (M : Nat → Int) (n : Nat) (row : Nat → Int) : Nat → Int := fun i => if i < n then M i else row (i - n)
/-- What is told of a text from place i on, its stretch begun at k. -/
def readF (s : ByteArray) : Nat → Nat → Nat → Nat → (Nat → Int) → (Nat → Int) → Bool × Int × (Nat → Int) × (Nat → Int)
  | 0, _, _, _, M, T => (false, 0, M, T)
  | f + 1, i, k, c, M, T =>
    if s.size < i then (if c = 3 ∧ isOp 9 M 3 T then (true, -1, M, T) else (false, s.size, M, T))
    else if i < s.size ∧ byt s i ≠ 44 then readF s f (i + 1) k c M T
    else
      let u := unb s k (i - k)
      let r := termF u (u.size + 2) 0 (fun _ => 0) 0 false
      if r.2.2 = true then readF s f (i + 1) (i + 1) (c + 1) (cat3 M (3 * c) r.1) (snoc T c r.2.1) else (false, k, M, T)
/-- Tried at a text: it is read. -/
def asText (l : List UInt8) : ByteArray := ⟨l.toArray⟩
example : (readF (asText [45, 120, 44, 45, 121, 44, 45, 122]) 20 0 0 0 (fun _ => 0) (fun _ => 0)).1 = true := by decide +kernel
end Go.Proofs.Ytpolnkjmojofoaa
