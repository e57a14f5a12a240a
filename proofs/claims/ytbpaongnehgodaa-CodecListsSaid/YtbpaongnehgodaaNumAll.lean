/- Package num: All: the bytes of all numbers. -/
import Derived.Test.YtbpaongnehgodaaNumRefPut
import Derived.Test.YtbpaongnehgodaaAppend
import Derived.Laws.MakeOwn
import Derived.Deep.AppendLies
namespace Go.Proofs.Ytbpaongnehgodaa
open Go.ChangeShapes Go.WideShapes Go.ChangeAt Go.RowKit
/-- The bytes of the first so many numbers. -/
def encs (z : Nat → Int) : Nat → List UInt8
  | 0 => []
  | k + 1 => encs z k ++ encN (codeN (z k))
theorem encs_len {z : Nat → Int} {n : Nat} (hz : ∀ i, i < n → -9223372036854775808 ≤ z i ∧ z i ≤ 9223372036854775807) : ∀ k, k ≤ n → (encs z k).length ≤ 10 * k
  | 0, _ => by simp [encs]
  | k + 1, h => by
    have h1 := encs_len hz k (by omega)
    have h2 := encN_len (codeN_lt (hz k (by omega)))
    simp only [encs, List.length_append]
    omega
/-- A byte, as a value. -/
def bv (b : UInt8) : Value := .int .u8 (b.toNat : Int)
theorem infoB8 : (Try.prog.info? 5).map (fun i => (i.zero, i.size, i.bytes)) = some (some (.int .u8 0), 1, 1) := by kernel_rfl
/-- A slice of bytes of one's own. -/
def OwnB (w : World) (B : Nat) (v : Value) (l : List UInt8) : Prop := (∃ g cap, v = .slice (some ⟨g, 0, none⟩) l.length cap) ∧ w.ownsRow B 5 1 v l.length (l.map bv)
theorem makeB (n : Nat) (hn : n ≤ 1000000) (w : World) : (Instr.makeSlice 62 (.int .i64 0) (.int .i64 (n : Int))).run Try.prog w = .ok (.slice (some ⟨w.heap.size, 0, none⟩) 0 n) (w.alloc (.cells (madeCells #[.int .u8 0] n) 5)) := by
  obtain ⟨i, hi, hz, hs, hb⟩ := info_parts infoB8
  have h := run_make (P := Try.prog) w 62 5 i (.int .u8 0) Try.underlying62 hi hz .i64 .i64 0 (n : Int) (by omega) (by omega) (by rw [hb]; omega) (by omega)
  rw [h, hs]
  simp
  rfl
theorem OwnB.made (w : World) (n : Nat) (hn : n ≤ 1000000) : OwnB (w.alloc (.cells (madeCells #[.int .u8 0] n) 5)) w.heap.size (.slice (some ⟨w.heap.size, 0, none⟩) 0 n) [] :=
  ⟨⟨_, _, rfl⟩, World.ownsRow_made w _ n (Nat.le_refl _) (by unfold maxLen; omega) (by
    have := size_madeCells #[Value.int .u8 0] n
    simpa using this)⟩
theorem OwnB.next {w' : World} {B : Nat} {v' : Value} {l : List UInt8} {b : UInt8} {u : Value} (hu : u = bv b) (h : w'.ownsRow B 5 1 v' (l.length + 1) (l.map bv ++ [u])) : OwnB w' B v' (l ++ [b]) := by
  subst hu
  refine ⟨?_, by simpa using h⟩
  rcases h.2 with ⟨_, h0⟩ | ⟨g, cap, cur, rfl, _⟩
  · omega
  · exact ⟨g, cap, by simp⟩
theorem or8 (c : Nat) : bits BinOp.or IntKind.u8 ((c : Int) % 256) 128 = ((128 + c % 128 : Nat) : Int) := by
  have ew : (c : Int) % 256 = ((c % 256 : Nat) : Int) := by omega
  rw [ew]
  have key : ∀ x, x < 256 → bits BinOp.or IntKind.u8 ((x : Nat) : Int) 128 = ((128 + x % 128 : Nat) : Int) := by decide +kernel
  rw [key _ (by omega), show c % 256 % 128 = c % 128 by omega]
theorem OwnB.text {w : World} {B g cap : Nat} {l : List UInt8} (h : OwnB w B (.slice (some ⟨g, 0, none⟩) l.length cap) l) :
    (convert 62 9 (.slice (some ⟨g, 0, none⟩) l.length cap)).run Try.prog w = .ok (txt l) w :=
  run_convert_bytes_back (P := Try.prog) w 62 9 5 ⟨g, 0, none⟩ cap l Try.underlying62 Try.underlying5 Try.underlying9 (fun j hj => by
    rw [add_plain, Nat.zero_add, World.ownsRow.cellAt h.2 j (by omega)]
    simp [hj, bv])
set_option maxHeartbeats 2000000 in
theorem all_any (z : Nat → Int) (n cap : Nat) (ao : Option Addr) (hn : n ≤ 1000) (hz : ∀ i, i < n → -9223372036854775808 ≤ z i ∧ z i ≤ 9223372036854775807) (w : World) (h : IntsAt w ao n z) :
    Calls Try.prog 25 #[.slice ao n cap] w (Ret (txt (encs z n)) w) := by
  have HC := Lib.hid (fun k (hk : k < n) => code_any (z k) (hz k hk))
  have HCL := Lib.hid (fun k (hk : k < n) => codeN_lt (hz k hk))
  have HEL := Lib.hid (fun k (hk : k < n) => encN_len (codeN_lt (hz k hk)))
  have HLEN := Lib.hid (fun k (hk : k ≤ n) => encs_len hz k hk)
  have n2 : (n : Int) ≤ 1000 := by omega
  obtain ⟨i0, hinf, hz0, hz1, hz2⟩ := info_parts infoB8
  have hmk := makeB n (by omega)
  have HM := Lib.hid (OwnB.made w n (by omega))
  have HI := Lib.hid h
  clear h hz hn
  go_enter Try.func25, Try.ntmps25
  go_wp2_with fail
  clear hmk
  go_loopw [3, 12] (fun sv iv wr => ∃ k : Nat, k ≤ n ∧ iv = .int .i64 k ∧ OwnB wr w.heap.size sv (encs z k) ∧ Below w.heap.size w wr) (fun _ iv _ => n - (intOf iv).toNat)
  case atStart => exact ⟨0, Nat.zero_le _, rfl, HM.out, by go_grown⟩
  case round =>
    obtain ⟨k, hk, rfl, ⟨⟨g, c0, rfl⟩, hown⟩, hbel⟩ := hrel
    have hk2 : (k : Int) ≤ n := by omega
    by_cases hlt : k < n
    · have hlt2 : (k : Int) < n := by omega
      obtain ⟨b, off, rfl, hblt, hc⟩ := HI.out.below hbel (by omega)
      have hcell := hc k hlt
      have HCK := Lib.hid (HC.out k hlt)
      have HL10 := Lib.hid (HEL.out k hlt)
      have HLK := Lib.hid (HLEN.out k hk)
      have HCLK := Lib.hid (HCL.out k hlt)
      have HE : Hid (encs z (k + 1) = encs z k ++ encN (codeN (z k))) := rfl
      have HKN := Lib.hid hlt
      have HO := Lib.hid hown
      have HB := Lib.hid hbel
      clear hc hown hbel
      obtain ⟨C, hC⟩ : ∃ C, C = codeN (z k) := ⟨_, rfl⟩
      rw [← hC] at HCK HL10 HE HCLK
      obtain ⟨x, hx⟩ : ∃ x, x = z k := ⟨_, rfl⟩
      rw [← hx] at hcell HCK
      obtain ⟨L0, hL0⟩ : ∃ L0, L0 = encs z k := ⟨_, rfl⟩
      rw [← hL0] at HE HO HLK ⊢
      clear hC hx hL0 hlt hblt
      go_wp2_with fail
      refine (HCK.out _).mono ?_
      rintro e w1 ⟨rfl, rfl⟩
      go_wp2_with fail
      obtain ⟨wq, hwq⟩ : ∃ x, x = wr := ⟨_, rfl⟩
      rw [← hwq] at HO HB hcell ⊢
      clear hwq
      go_loopw [3, 6] (fun sv cv wr => ∃ (c : Nat) (L : List UInt8), cv = .int .u64 c ∧ c < 18446744073709551616 ∧ L0 ++ encN C = L ++ encN c ∧ OwnB wr w.heap.size sv L ∧ Below w.heap.size w wr) (fun _ cv _ => (intOf cv).toNat)
      case atStart => exact ⟨C, L0, rfl, HCLK.out, rfl, ⟨⟨_, _, rfl⟩, HO.out⟩, HB.out⟩
      case round =>
        obtain ⟨c, L, rfl, hcl, hL, ⟨⟨g2, c2, rfl⟩, hown⟩, hbel⟩ := hrel
        have hlen : L.length ≤ 11000 := by
          have h1 := congrArg List.length hL
          simp only [List.length_append] at h1
          have h2 := HLK.out
          have h3 := HL10.out
          omega
        have hcl2 : (c : Int) ≤ 18446744073709551615 := by omega
        have hbs := hbel.size
        by_cases h7 : 128 ≤ c
        · have d7 : decide (128 ≤ (c : Int)) = true := by simp; omega
          have d7' : decide (128 ≤ c) = true := by simp; omega
          have hor := or8 c
          have HH : Hid (L0 ++ encN C = (L ++ [UInt8.ofNat (128 + c % 128)]) ++ encN (c / 128)) := by
            show _ = _
            rw [hL, encN_more (by omega)]
            simp
          have HBV : Hid (Value.int .u8 ((128 + c % 128 : Nat) : Int) = bv (UInt8.ofNat (128 + c % 128))) := by
            show _ = _
            unfold bv
            have : (UInt8.ofNat (128 + c % 128)).toNat = 128 + c % 128 := by simp; omega
            rw [this]
          have HZ : Hid (c / 128 < c ∧ c / 128 < 18446744073709551616) := ⟨by omega, by omega⟩
          have hq : IntKind.u64.wrap ((c : Int) / 128) = (c : Int) / 128 := by rw [IntKind.wrap_u64]; omega
          obtain ⟨y, hy⟩ : ∃ y, y = 128 + c % 128 := ⟨_, rfl⟩
          rw [← hy] at hor HBV HH
          clear hL hy hcl h7
          go_wp2_with (at_builtin; refine wpList_append_near _ rfl _ _ 62 rfl w.heap.size 5 i0 (.int .u8 0) 1 Try.underlying62 hinf hz0 hz1 hz2 rfl _ L.length _ rfl (hown.alloc _) ⟨wr.heap.size, 0, none⟩ 1 (.int .u8 (y : Nat)) rfl ?a1 rfl ?a3 ?a4 ?a5 ?_)
          try (case a1 => rw [World.cell?_alloc_new]; rfl)
          case a3 => unfold maxLen; omega
          case a4 => omega
          case a5 => simp; omega
          intro v3 w3 hown3 hgrow3 hnear3
          have HO3 : Hid (OwnB w3 w.heap.size v3 (L ++ [UInt8.ofNat y])) := OwnB.next HBV.out hown3
          have HB3 : Hid (Below w.heap.size w w3) := (hbel.alloc hbel.size _).grown hgrow3 (by simp; omega) (fun k' hk' => (hown.lt k' hk').1)
          clear hown3 hgrow3 hnear3 hown hbel
          go_wp2_with fail
          go_roundw
          case rel => exact ⟨c / 128, L ++ [UInt8.ofNat y], by go_num, HZ.out.2, HH.out, HO3.out, HB3.out⟩
          case measure => have := HZ.out.1; simp [intOf]; omega
        · have d7 : decide (128 ≤ (c : Int)) = false := by simp; omega
          have d7' : decide (128 ≤ c) = false := by simp; omega
          have HH : Hid (encs z (k + 1) = L ++ [UInt8.ofNat c]) := by
            show _ = _
            rw [HE.out, hL, encN_one (by omega)]
          have HBV : Hid (Value.int .u8 (c : Int) = bv (UInt8.ofNat c)) := by
            show _ = _
            unfold bv
            have : (UInt8.ofNat c).toNat = c := by simp; omega
            rw [this]
          have ew : (c : Int) % 256 = c := by omega
          have hc7 : (c : Int) ≤ 127 := by omega
          clear hL hcl h7 hcl2
          go_wp2_with (at_builtin; refine wpList_append_near _ rfl _ _ 62 rfl w.heap.size 5 i0 (.int .u8 0) 1 Try.underlying62 hinf hz0 hz1 hz2 rfl _ L.length _ rfl (hown.alloc _) ⟨wr.heap.size, 0, none⟩ 1 (.int .u8 (c : Nat)) rfl ?a1 rfl ?a3 ?a4 ?a5 ?_)
          try (case a1 => rw [World.cell?_alloc_new]; rfl)
          case a3 => unfold maxLen; omega
          case a4 => omega
          case a5 => simp; omega
          intro v3 w3 hown3 hgrow3 hnear3
          have HO3 : Hid (OwnB w3 w.heap.size v3 (L ++ [UInt8.ofNat c])) := OwnB.next HBV.out hown3
          have HB3 : Hid (Below w.heap.size w w3) := (hbel.alloc hbel.size _).grown hgrow3 (by simp; omega) (fun k' hk' => (hown.lt k' hk').1)
          clear hown3 hgrow3 hnear3 hown hbel
          go_wp2_with fail
          go_roundw
          case rel => exact ⟨k + 1, by have := HKN.out; omega, by go_num, by rw [HH.out]; exact HO3.out, HB3.out⟩
          case measure => have := HKN.out; simp [intOf]; omega
    · obtain rfl : k = n := by omega
      have htx := OwnB.text (w := wr) ⟨⟨_, _, rfl⟩, hown⟩
      have HB := Lib.hid hbel
      clear hown hbel
      unfold txt at *
      go_wp2_with fail
      go_ret
      exact ⟨rfl, HB.out⟩
end Go.Proofs.Ytbpaongnehgodaa
