/- Own text: samples and layouts that came in as arguments, opened. -/
import Derived.Test.YtolmijpecomkcaaP5args
namespace Go.Proofs.Ytolmijpecomkcaa
open Go.RowKit
set_option linter.unusedSimpArgs false
set_option linter.unusedVariables false
open Go.ChangeShapes Go.WideShapes Go.ChangeAt Go.RowKit Go.Deep
section
variable {H : Type} {enc : TypeId × Value → H} {w : World} {base base2 : Nat} {held : Bool}
theorem open_pcm0 {r : Reach} {v : Value} {d : DataW H} {q : List MemPlace} (hv : Value.okWide Try.prog w r base2 24 v) (h : DataW.Trod enc Try.prog w base (fun _ => true) held 24 v d q) (hw : ∀ n ∈ d.weights Try.prog 24, n ≤ reachBytes) :
    ∃ (p : Pcm) (ao : Option Addr) (cap : Nat), v = pcmV p ao cap ∧ RowsAt w ao p.pl ∧ Fair p := by
  obtain ⟨cs, rfl, hs⟩ := okWide_struct Try.underlying24 hv
  obtain ⟨fuel, hf⟩ := h
  obtain ⟨p, ao, cap, hc, hr, hfa⟩ := open_pcm_cells hf hw
  refine ⟨p, ao, cap, ?_, hr, hfa⟩
  have : cs.toList = (pcmC p ao cap).toList := hc
  rw [Array.toList_inj.1 this]
theorem open_layout0 {r : Reach} {v : Value} {d : DataW H} {q : List MemPlace} (hv : Value.okWide Try.prog w r base2 34 v) (h : DataW.Trod enc Try.prog w base (fun _ => true) held 34 v d q) :
    ∃ big uns : Bool, v = .agg #[.bool big, .bool uns] ∧ d = .agg [.lit (.bool big), .lit (.bool uns)] ∧ q = [] := by
  obtain ⟨cs, rfl, hs⟩ := okWide_struct Try.underlying34 hv
  obtain ⟨fuel, hf⟩ := h
  obtain ⟨y0, y1, m, hx, hl, h0, h1⟩ := trod_struct2 Try.underlying34 hf
  obtain ⟨b0, e0, f0⟩ := DataW.trod_bool Try.underlying4 h0
  obtain ⟨b1, e1, f1⟩ := DataW.trod_bool Try.underlying4 h1
  have hl2 : cs.toList.length = 2 := by
    rw [Array.length_toList, hs]
    kernel_rfl
  subst f0 f1
  refine ⟨b0, b1, ?_, congrArg Prod.fst hx, by have := congrArg Prod.snd hx; simpa using this⟩
  obtain ⟨l⟩ := cs
  match l, hl2 with
  | [c0, c1], _ =>
    simp [acells4, Value.cells] at e0 e1
    rw [e0, e1]
end

end Go.Proofs.Ytolmijpecomkcaa
