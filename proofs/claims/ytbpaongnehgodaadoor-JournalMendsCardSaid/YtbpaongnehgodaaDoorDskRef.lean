/- The document's disk: Wrong, Goes. -/
import Derived.Test.YtbpaongnehgodaaDoorDskOp
namespace Go.Proofs.YtbpaongnehgodaaDoor
open Go.ChangeShapes Go.WideShapes Go.ChangeAt Go.RowKit
/-- What hinders every operation. -/
def rwr (f : Int) (d : Bool) : Int := if f < -1 then 1 else if d = true then 16 else 0
/-- What an operation burns of the fuse. -/
def gfu (f : Int) : Int := if 0 < f then f - 1 else f
/-- The cases of an operation's answer. -/
theorem opV_1 {s t : ByteArray} {f : Int} {d : Bool} {hin : Int} {s0 t0 s1 t1 : ByteArray} (h : f < -1) : opV s t f d hin s0 t0 s1 t1 = .tuple #[.agg #[.string s, .string t, .int .i64 f, .bool d], .int .i64 1] := if_pos h
theorem opV_16 {s t : ByteArray} {f : Int} {hin : Int} {s0 t0 s1 t1 : ByteArray} (h : ¬ f < -1) : opV s t f true hin s0 t0 s1 t1 = .tuple #[.agg #[.string s, .string t, .int .i64 f, .bool true], .int .i64 16] := by unfold opV; rw [if_neg h, if_pos rfl]
theorem opV_h {s t : ByteArray} {f : Int} {hin : Int} {s0 t0 s1 t1 : ByteArray} (h : ¬ f < -1) (hh : hin ≠ 0) : opV s t f false hin s0 t0 s1 t1 = .tuple #[.agg #[.string s, .string t, .int .i64 f, .bool false], .int .i64 hin] := by unfold opV; rw [if_neg h, if_neg (by decide), if_pos hh]
theorem opV_0 {s t : ByteArray} {s0 t0 s1 t1 : ByteArray} : opV s t 0 false 0 s0 t0 s1 t1 = .tuple #[.agg #[.string s0, .string t0, .int .i64 0, .bool true], .int .i64 16] := rfl
theorem opV_k {s t : ByteArray} {f : Int} {s0 t0 s1 t1 : ByteArray} (h : ¬ f < -1) (hz : ¬ f = 0) : opV s t f false 0 s0 t0 s1 t1 = .tuple #[.agg #[.string s1, .string t1, .int .i64 (gfu f), .bool false], .int .i64 0] := by unfold opV gfu; rw [if_neg h, if_neg (by decide), if_neg (by decide), if_neg hz]
theorem rwr_1 {f : Int} {d : Bool} (h : f < -1) : rwr f d = 1 := if_pos h
theorem rwr_16 {f : Int} (h : ¬ f < -1) : rwr f true = 16 := by unfold rwr; rw [if_neg h, if_pos rfl]
theorem rwr_0 {f : Int} (h : ¬ f < -1) : rwr f false = 0 := by unfold rwr; rw [if_neg h, if_neg (by decide)]
theorem opV_form (s t : ByteArray) (f : Int) (d : Bool) (hin : Int) (s0 t0 s1 t1 : ByteArray) : ∃ S T F D E, opV s t f d hin s0 t0 s1 t1 = .tuple #[.agg #[.string S, .string T, .int .i64 F, .bool D], .int .i64 E] := by
  unfold opV
  split
  · exact ⟨_, _, _, _, _, rfl⟩
  · split
    · exact ⟨_, _, _, _, _, rfl⟩
    · split
      · exact ⟨_, _, _, _, _, rfl⟩
      · split <;> exact ⟨_, _, _, _, _, rfl⟩
theorem tl_ne {t : ByteArray} (h : t ≠ ⟨#[]⟩) : ¬ t.toList = [] ∧ (t.toList == []) = false ∧ (decide (t.toList = [])) = false ∧ t.toList.isEmpty = false := by
  have h1 : ¬ t.toList = [] := fun e => h (by
    obtain ⟨⟨l⟩⟩ := t
    rw [ByteArray.toList_eq] at e
    cases l with
    | nil => rfl
    | cons x l => cases e)
  exact ⟨h1, by rw [beq_eq_false_iff_ne]; exact h1, decide_eq_false h1, by simpa using h1⟩
/-- What Cut answers. -/
def cutV (s t : ByteArray) (f : Int) (d : Bool) (n : Int) : Value := if t = ⟨#[]⟩ ∧ 0 ≤ n ∧ n ≤ s.size then opV s t f d 0 s t (front s n.toNat) t else opV s t f d 1 s t s t
theorem cutV_1 {s t : ByteArray} {f : Int} {d : Bool} {n : Int} (h : f < -1) : cutV s t f d n = .tuple #[.agg #[.string s, .string t, .int .i64 f, .bool d], .int .i64 1] := by unfold cutV; split <;> exact opV_1 h
theorem cutV_16 {s t : ByteArray} {f : Int} {n : Int} (h : ¬ f < -1) : cutV s t f true n = .tuple #[.agg #[.string s, .string t, .int .i64 f, .bool true], .int .i64 16] := by unfold cutV; split <;> exact opV_16 h
theorem cutV_h {s t : ByteArray} {f : Int} {n : Int} (h : ¬ f < -1) (hh : ¬ (t = ⟨#[]⟩ ∧ 0 ≤ n ∧ n ≤ s.size)) : cutV s t f false n = .tuple #[.agg #[.string s, .string t, .int .i64 f, .bool false], .int .i64 1] := by unfold cutV; rw [if_neg hh]; exact opV_h h (by decide)
theorem cutV_ok {s t : ByteArray} {f : Int} {d : Bool} {n : Int} (hh : t = ⟨#[]⟩ ∧ 0 ≤ n ∧ n ≤ s.size) : cutV s t f d n = opV s t f d 0 s t (front s n.toNat) t := if_pos hh
end Go.Proofs.YtbpaongnehgodaaDoor
