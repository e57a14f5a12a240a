/- The library's variables at the start of a call: from what the row lists, and from the world's shape; and a wrap that hands on both. -/
import Derived.Test.YtcclhblkchghbaaDoorTie
import Derived.Test.YtcclhblkchghbaaDoorCards
import Derived.Test.YtcclhblkchghbaaDoorMoneyParse
import Derived.ProofKit
import Derived.LaidMore
import Derived.OpenShut
import Derived.Stop.Joined
import Derived.Stop.LaidErr
import Derived.SevenTiedAt
import Derived.Lib.SmallJoins
import Derived.Shelf.Vars
namespace Go.Proofs.YtcclhblkchghbaaDoor
open Go.ChangeShapes Go.WideShapes Go.ChangeAt Go.WideElems Go.RowKit Go.Joins
set_option linter.unusedVariables false
theorem own5 : ownKnob Tryd.prog.godebug = none := by kernel_rfl
theorem laidOut5 : laidOutB Tryd.prog = true := by kernel_rfl
theorem gTab5 : Tryd.prog.globalNamed "internal/strconv.uint64pow10" = some 3 := by kernel_rfl
theorem tTab5 : (Tryd.prog.globals[3]?).map (·.type) = some 94 := by kernel_rfl
theorem gSyn5 : Tryd.prog.globalNamed "strconv.ErrSyntax" = some 1 := by kernel_rfl
theorem tSyn5 : (Tryd.prog.globals[1]?).map (·.type) = some 54 := by kernel_rfl
theorem gRan5 : Tryd.prog.globalNamed "strconv.ErrRange" = some 2 := by kernel_rfl
theorem tRan5 : (Tryd.prog.globals[2]?).map (·.type) = some 54 := by kernel_rfl
theorem cellsE5 : Tryd.prog.cellsOf 31 = 1 := by kernel_rfl
theorem cellsT5 : Tryd.prog.cellsOf 94 = 20 := by kernel_rfl
theorem cellsS5 : Tryd.prog.cellsOf 103 = 1 := by kernel_rfl
theorem cellsG5 : Tryd.prog.cellsOf 9 = 1 := by kernel_rfl
theorem star5 : "*" ++ "errors.errorString" = "*errors.errorString" := by decide
theorem row5 (u : TypeId) (h : Tryd.prog.typeName? 3 u = some "*errors.errorString") : u = 101 :=
  typeName_ptr_named (nm := "errors.errorString") (by rw [star5]; kernel_rfl) (by kernel_rfl) (by decide) u (by rw [star5]; exact h)
theorem vars_of_laid {W : World} (h : laidMetH Tryd.prog Rows.moneyTextsRow.laid W) (hs : W.ShapedOpen Tryd.prog) : Vars W := by
  rw [MakeChecks.laidMetH_plain _ _ _ (by kernel_rfl)] at h
  have h1 : laidMet Tryd.prog (("internal/strconv.uint64pow10", Lib.tabData .u64 Lib.pow10Tab) :: [("strconv.ErrRange", Rows.laid_strconv_ErrRange), ("strconv.ErrSyntax", Rows.laid_strconv_ErrSyntax)]) W := h.tail.tail
  obtain ⟨a1, s1, hv1, _⟩ := laid_sentinel h1.tail gRan5 tRan5 Tryd.underlying54 row5 Tryd.underlying101 Tryd.underlying103 rfl rfl Tryd.underlying9 cellsS5 cellsG5
  obtain ⟨a2, s2, hv2, _⟩ := laid_sentinel h1.tail.tail gSyn5 tSyn5 Tryd.underlying54 row5 Tryd.underlying101 Tryd.underlying103 rfl rfl Tryd.underlying9 cellsS5 cellsG5
  refine ⟨Lib.tabIs_of_head gTab5 tTab5 Tryd.underlying94 Tryd.underlying31 cellsE5 cellsT5 h1, ?_, ?_, ?_⟩
  · exact cell_of_shapedOpen_int (zero := #[.int .i64 0]) (t := 3) hs (of_decide_eq_true (by kernel_rfl)) (by kernel_rfl) rfl (by kernel_rfl) (by kernel_rfl) Tryd.underlying3
  · exact ⟨_, by simpa using World.var?_cell gSyn5 hv2 0, Or.inr ⟨_, _, rfl⟩⟩
  · exact ⟨_, by simpa using World.var?_cell gRan5 hv1 0, Or.inr ⟨_, _, rfl⟩⟩
/-- The plain wrap, for a row that lists variables, the world's shape handed on. -/
theorem returns_laid_shaped {H : Type} {enc : TypeId × Value → H} {C : Checked} {os : Os} {f : FuncId} {fn : Func} {s : ChangeSpec} {fresh handsOn again : Bool} {X : World → Array Value → Prop}
    (hX : ∀ (w w' : World) (args : Array Value), w.heap = w'.heap → X w args → X w' args)
    (own : ownKnob C.prog.godebug = none) (started : os.Started) (noInit : C.prog.inits.idxOf? f = none) (hfn : C.prog.funcs[f]? = some fn)
    (witness : ∃ (w : World) (tape : Tape) (i : Input), w.os = os ∧ (w.forCall tape i).Shaped C.prog ∧ i.vars = [] ∧ Input.okWide C.prog (w.forCall tape i) .any w.heap.size f i ∧
      ((s.pre enc C.prog fn [] false (w.forCall tape i).memory i.args ∧ X (w.forCall tape i).memory i.args) ∧ sizedMet enc C.prog fn (OpenSpec.ofChange s) false (w.forCall tape i).memory i.args) ∧ ({} : Assume).holds C.prog (lone (Frame.enter C.prog f i.args .normal) [] (w.forCall tape i)))
    (contract : ∀ (W : World) (base : Nat) (args : Array Value) (ds gs : List (DataW H)) (before : List MemPlace),
      (∀ (j : Nat) t v, fn.params[j]? = some t → args[j]? = some v → Value.okWide C.prog W .any base t v) →
      DataW.Whole enc C.prog fn.params.toList s.vars false W args.toList ds gs before → X W args → W.ShapedOpen C.prog →
      Calls C.prog f args W fun e W' => ∃ v, e = .returned v ∧ s.post enc C.prog fn false fresh handsOn again W args v W') :
    ReturnsInHanded {} C os f .any (fun w args => (s.pre enc C.prog fn [] false w args ∧ X w args) ∧ sizedMet enc C.prog fn (OpenSpec.ofChange s) false w args) (s.post enc C.prog fn false fresh handsOn again) := by
  refine returnsInHanded_of_calls own started noInit witness ?_
  intro w tape i _ hsh _ hok hpre _
  obtain ⟨_, _, _, fn', hfn', _, _, _, _, hval⟩ := hok
  obtain rfl : fn' = fn := Option.some.inj (hfn'.symm.trans hfn)
  obtain ⟨⟨⟨ds, gs, before, hw, _⟩, hx⟩, _⟩ := hpre
  have hw' := DataW.Whole.of_heap (w' := w.forCall tape i) (by rfl) hw
  refine (contract (w.forCall tape i) w.heap.size i.args ds gs before hval hw' (hX _ _ _ (by rfl) hx) hsh).mono fun e W' ⟨v, he, hp⟩ => ?_
  subst he
  exact ChangeSpec.post_blind hp
end Go.Proofs.YtcclhblkchghbaaDoor
