/- FramePuts, FrameReads, walked. -/
import Derived.Test.YtbpaongnehgodaaDoorFrameLaw1
namespace Go.Proofs.YtbpaongnehgodaaDoor
open Go.ChangeShapes Go.WideShapes Go.ChangeAt Go.RowKit
theorem nextV_form (s : ByteArray) (x : NextA) : ∃ (a b : ByteArray) (e : Int), nextV s x = .tuple #[.string a, .string b, .int .i64 e] := by
  cases x with
  | err e => exact ⟨_, _, _, rfl⟩
  | ok n => exact ⟨_, _, _, rfl⟩
theorem scanR_many : ∀ (f : Nat) (L : List UInt8), (scanR f L).1.length ≤ f
  | 0, _ => Nat.le_refl _
  | f + 1, L => by
    simp only [scanR]
    split
    · exact Nat.zero_le _
    · split
      · exact Nat.zero_le _
      · have := scanR_many f (L.drop (8 + by assumption))
        simp only [List.length_cons]
        omega
end Go.Proofs.YtbpaongnehgodaaDoor
