/- Package money: digits, sign, join, Text: for all amounts. -/
import Derived.Test.YtcclhblkchghbaaDoorMoneyText
namespace Go.Proofs.YtcclhblkchghbaaDoor
open Go.ChangeShapes Go.WideShapes Go.ChangeAt Go.RowKit
set_option maxHeartbeats 400000 in
theorem sfmt_any (u : Nat) (hu : u < 18446744073709551616) (w : World) (ht : Tab w) :
    Calls Tryd.prog 38 #[.int .u64 u, .int .i64 10] w (Ret (txt (Lib.decDigits u)) w) := by
  have H := Lib.hid (fun (w : World) h => ifmt_any u hu w h)
  have HT := Lib.hid ht
  clear hu ht
  go_enter Tryd.func38, Tryd.ntmps38
  go_wp2_with fail
  refine (H.out _ HT.out).mono ?_
  rintro e w1 ⟨rfl, h1⟩
  unfold txt
  go_wp2
  go_ret
  exact ⟨rfl, h1⟩
set_option maxHeartbeats 400000 in
theorem digits_any (u : Nat) (hu : u < 18446744073709551616) (w : World) (ht : Tab w) :
    Calls Tryd.prog 33 #[.int .u64 u] w (Ret (txt (Lib.decDigits u)) w) := by
  have H := Lib.hid (fun (w : World) h => sfmt_any u hu w h)
  have HT := Lib.hid ht
  clear hu ht
  go_enter Tryd.func33, Tryd.ntmps33
  go_wp2_with fail
  refine (H.out _ HT.out).mono ?_
  rintro e w1 ⟨rfl, h1⟩
  unfold txt
  go_wp2
  go_ret
  exact ⟨rfl, h1⟩
/-- What stands ahead of an amount's digits. -/
def signL (a : Int) : List UInt8 := if a < 0 then [45] else []
theorem sign_any (a : Int) (w : World) : Calls Tryd.prog 32 #[.int .i64 a] w (RetS (txt (signL a)) w) := by
  by_cases h : a < 0
  · have HE := Lib.hid (show signL a = [45] from if_pos h)
    go_enter Tryd.func32, Tryd.ntmps32
    go_wp2
    go_ret
    exact ⟨by rw [HE.out]; rfl, rfl⟩
  · have HE := Lib.hid (show signL a = [] from if_neg h)
    go_enter Tryd.func32, Tryd.ntmps32
    go_wp2
    go_ret
    exact ⟨by rw [HE.out]; rfl, rfl⟩
theorem join_flat (xs : List (List UInt8)) : Lib.join xs [] = xs.flatten := by
  induction xs with
  | nil => rfl
  | cons x r ih =>
    rw [Lib.join_cons]
    simp [Lib.joinTail]
set_option maxHeartbeats 400000 in
theorem join_any (bk o c : Nat) (xs : List ByteArray) (w : World) (hcells : ∀ (j : Nat) x, xs[j]? = some x → w.cell? ⟨bk, o + j, none⟩ = some (.string x)) (hbk : bk < w.heap.size) (hcap : xs.length ≤ c) (hN : xs.length ≤ 1000) (hlen : (xs.map (·.data.toList)).flatten.length ≤ 140737488355328) :
    Calls Tryd.prog 31 #[.slice (some ⟨bk, o, none⟩) xs.length c] w (Ret (txt (xs.map (·.data.toList)).flatten) w) := by
  have H0 := Tryd.strings_Join bk o c xs ⟨#[]⟩ w hcells hbk (by omega) hcap (by rw [show (⟨#[]⟩ : ByteArray).data.toList = [] from rfl, join_flat]; exact hlen)
  rw [show (⟨#[]⟩ : ByteArray).data.toList = [] from rfl, join_flat] at H0
  have H := Lib.hid H0
  generalize (xs.map (·.data.toList)).flatten = r at *
  generalize xs.length = n at *
  clear H0 hcells hbk hcap hN hlen
  go_enter Tryd.func31, Tryd.ntmps31
  go_wp2_with fail
  refine H.out.mono ?_
  rintro e w1 ⟨rfl, h1⟩
  go_wp2
  go_ret
  exact ⟨rfl, h1⟩
/-- An amount's text. -/
def textL (a : Int) : List UInt8 := signL a ++ (Lib.decDigits (a.natAbs / 100) ++ (46 :: (Lib.decDigits (a.natAbs % 100 / 10) ++ Lib.decDigits (a.natAbs % 10))))
theorem dd_len (u : Nat) (hu : u < 18446744073709551616) : (Lib.decDigits u).length ≤ 20 := by
  rw [Lib.decDigits_length]
  rcases Nat.eq_zero_or_pos u with rfl | h
  · rw [Lib.nDigits_small (by omega)]; omega
  · have := Lib.numDigits_eq u h hu
    split at this <;> omega
set_option maxHeartbeats 1000000 in
theorem text_any (a : Int) (ha : -9223372036854775808 ≤ a ∧ a ≤ 9223372036854775807) (w : World) (ht : Tab w) :
    Calls Tryd.prog 20 #[.int .i64 a] w (Ret (txt (textL a)) w) := by
  have HV := Lib.hid (show textL a = ([signL a, Lib.decDigits (a.natAbs / 100), [46], Lib.decDigits (a.natAbs % 100 / 10), Lib.decDigits (a.natAbs % 10)] : List (List UInt8)).flatten from by simp [textL])
  have HS := Lib.hid (fun (w : World) => size_any a ha w)
  have HG := Lib.hid (fun (w : World) => sign_any a w)
  have HT := Lib.hid ht
  have hn : a.natAbs ≤ 9223372036854775808 := by omega
  have hsl : (signL a).length ≤ 1 := by unfold signL; split <;> simp
  generalize signL a = sg at *
  generalize a.natAbs = n at *
  have HD1 := Lib.hid (fun (w : World) h => digits_any (n / 100) (by omega) w h)
  have HD2 := Lib.hid (fun (w : World) h => digits_any (n % 100 / 10) (by omega) w h)
  have HD3 := Lib.hid (fun (w : World) h => digits_any (n % 10) (by omega) w h)
  have l1 := dd_len (n / 100) (by omega)
  have l2 := dd_len (n % 100 / 10) (by omega)
  have l3 := dd_len (n % 10) (by omega)
  have HL : Hid (([sg, Lib.decDigits (n / 100), [46], Lib.decDigits (n % 100 / 10), Lib.decDigits (n % 10)] : List (List UInt8)).flatten.length ≤ 140737488355328) := by
    show _ ≤ _
    simp only [List.flatten_cons, List.flatten_nil, List.length_append, List.length_cons, List.length_nil]
    omega
  generalize Lib.decDigits (n / 100) = d1 at *
  generalize Lib.decDigits (n % 100 / 10) = d2 at *
  generalize Lib.decDigits (n % 10) = d3 at *
  have hn2 : (n : Int) ≤ 9223372036854775808 := by omega
  clear l1 l2 l3 hsl ha ht hn
  go_enter Tryd.func20, Tryd.ntmps20
  go_wp2_with fail
  refine (HS.out _).mono ?_
  rintro e w1 ⟨rfl, rfl⟩
  go_wp2_with fail
  refine (HG.out _).mono ?_
  rintro e w1 ⟨rfl, rfl⟩
  unfold txt
  go_wp2_with fail
  refine (HD1.out _ HT.out).mono ?_
  rintro e w1 ⟨rfl, h1⟩
  have T1 := Lib.hid (HT.out.next h1)
  have H1 := Lib.hid h1
  clear h1
  unfold txt
  go_wp2_with fail
  refine (HD2.out _ T1.out).mono ?_
  rintro e w2 ⟨rfl, h2⟩
  have T2 := Lib.hid (T1.out.next h2)
  have H2 := Lib.hid h2
  clear h2
  unfold txt
  go_wp2_with fail
  refine (HD3.out _ T2.out).mono ?_
  rintro e w3 ⟨rfl, h3⟩
  have H3 := Lib.hid h3
  clear h3
  unfold txt
  go_wp2_with fail
  have HJ := join_any w3.heap.size 0 5 [⟨sg.toArray⟩, ⟨d1.toArray⟩, ⟨#[46]⟩, ⟨d2.toArray⟩, ⟨d3.toArray⟩] (w3.alloc (.cells #[.string ⟨sg.toArray⟩, .string ⟨d1.toArray⟩, .string ⟨#[46]⟩, .string ⟨d2.toArray⟩, .string ⟨d3.toArray⟩] 9)) (fun j x hx => by rw [World.cell?_alloc_new, Nat.zero_add]; rcases j with _ | _ | _ | _ | _ | j <;> simp at hx <;> subst hx <;> rfl) (by simp) (by simp) (by simp) (by simpa using HL.out)
  refine HJ.mono ?_
  rintro e w4 ⟨rfl, h4⟩
  have H4 := Lib.hid h4
  clear h4 HJ
  unfold txt
  go_wp2_with fail
  go_ret
  refine ⟨by rw [HV.out]; simp [txt], ?_⟩
  have b2 := H1.out.trans (H2.out.mono H1.out.size)
  have b3 := b2.trans (H3.out.mono b2.size)
  exact b3.trans (((Below.refl _ _).alloc (Nat.le_refl _) _).trans (H4.out.mono (by simp)) |>.mono b3.size)
end Go.Proofs.YtcclhblkchghbaaDoor
