/-
  Own text: the law AiffParses: any bytes are taken apart as the document says.
-/
import Derived.Test.YtaepgjheknkojaaGreatQ7awake
import Derived.Test.YtaepgjheknkojaaGreatR7parse3
import Derived.Test.YtaepgjheknkojaaGreatG40x
import Derived.Test.YtaepgjheknkojaaGreatG5x
import Derived.Test.YtaepgjheknkojaaGreatG42x
import Derived.Deep.RegionHeld3
import Derived.Deep.CutRange
import Derived.WalkKit
import Derived.ProofKit
import Derived.OpenShut
import Derived.ShutString
import Derived.ChangeOld
import Derived.Below
import Derived.SizedLaws

namespace Go.Proofs.YtaepgjheknkojaaGreat.aiffParses
open Go.ChangeShapes Go.WideShapes Go.ChangeAt Go.RowKit
open Go.ChangeMaps (open_string shut_string)
set_option linter.unusedSimpArgs false
set_option linter.unusedVariables false

theorem own : ownKnob Tryz.prog.godebug = none := by kernel_rfl
theorem laidOut : laidOutB Tryz.prog = true := by kernel_rfl

/-- The boxes of one answer, and what lay before. -/
structure Jo (w0 : World) (q : Pcm) (f : ByteArray) (l : List Chk) (Q : Nat) (po : Option Addr) (pc : Nat) (wo : Option Addr) (wc : Nat) (w : World) : Prop where
  pb : PB Q q po pc w
  wb : WB (Q + 1) f l wo wc w
  below : Below w0.heap.size w0 w
theorem Jo.next {w0 w w1 : World} {q : Pcm} {f : ByteArray} {l : List Chk} {Q : Nat} {po : Option Addr} {pc : Nat} {wo : Option Addr} {wc : Nat} (h : Jo w0 q f l Q po pc wo wc w) (hB : Below w.heap.size w w1) : Jo w0 q f l Q po pc wo wc w1 := ⟨h.pb.next hB, h.wb.next hB, h.below.trans (hB.mono h.below.size)⟩
theorem Jo.new {w0 w : World} {q : Pcm} {f : ByteArray} {l : List Chk} {po : Option Addr} {wo : Option Addr} (hB : Below w0.heap.size w0 w) (hr : RowsAt w po q.pl) (hc : ChksAt w wo l) (pc wc : Nat) : Jo w0 q f l w.heap.size po pc wo wc ((w.alloc (.cells (pcmC q po pc) 24)).alloc (.cells (waveC f l wo wc) 27)) := by
  refine ⟨(PB.new hr pc).next (belA _ _), ?_, (hB.trans ((belA _ _).mono hB.size)).trans ((belA _ _).mono (hB.trans ((belA _ _).mono hB.size)).size)⟩
  have h := WB.new (f := f) (hc.below (belA w (.cells (pcmC q po pc) 24))) wc
  rw [show (w.alloc (.cells (pcmC q po pc) 24)).heap.size = w.heap.size + 1 from by simp] at h
  exact h
/-- The boxes of both. -/
structure Jb (w0 : World) (q : Pcm) (f : ByteArray) (l : List Chk) (Q : Nat) (po : Option Addr) (pc : Nat) (wo : Option Addr) (wc : Nat) (R : Nat) (ao : Option Addr) (ac : Nat) (oo : Option Addr) (oc : Nat) (w : World) : Prop where
  a : Jo w0 q f l Q po pc wo wc w
  b : Jo w0 q f l R ao ac oo oc w
theorem Jb.next {w0 w w1 : World} {q : Pcm} {f : ByteArray} {l : List Chk} {Q : Nat} {po : Option Addr} {pc : Nat} {wo : Option Addr} {wc : Nat} {R : Nat} {ao : Option Addr} {ac : Nat} {oo : Option Addr} {oc : Nat} (h : Jb w0 q f l Q po pc wo wc R ao ac oo oc w) (hB : Below w.heap.size w w1) : Jb w0 q f l Q po pc wo wc R ao ac oo oc w1 := ⟨h.a.next hB, h.b.next hB⟩

set_option maxRecDepth 20000 in
set_option maxHeartbeats 3200000 in
theorem walk (s : ByteArray) (hs : s.size ≤ 140737488351232) (w : World) :
    Calls Tryz.prog 3 #[.string s] w fun e w' => e = .returned (.bool true) ∧ Below w.heap.size w w' := by
  have HP : Hid (∀ wx, Calls Tryz.prog 6 #[.string s] wx fun e w' => ∃ po pc wo wc, e = .returned (.tuple #[pcmV (ansP s) po pc, .agg (waveC (ansF s) (ansL s) wo wc), .int .i64 (p7E s)]) ∧ Below wx.heap.size wx w' ∧ RowsAt w' po (ansP s).pl ∧ ChksAt w' wo (ansL s)) := fun wx => (Parse7_spec s wx hs).mono fun e w' h => ans_of h
  have HR : Hid (∀ wx, Calls Tryz.prog 7 #[.string s] wx fun e w' => ∃ po pc wo wc, e = .returned (.tuple #[pcmV (ansP s) po pc, .agg (waveC (ansF s) (ansL s) wo wc), .int .i64 (p7E s)]) ∧ Below wx.heap.size wx w' ∧ RowsAt w' po (ansP s).pl ∧ ChksAt w' wo (ansL s)) := fun wx => (r7parse_spec s wx hs).mono fun e w' h => ans_of h
  have HLN : Hid ((ansL s).length ≤ 9000000000000000) := ansL_len s
  generalize ansP s = q at *
  generalize ansF s = f at *
  generalize ansL s = l at *
  generalize p7E s = E at *
  go_enter Tryz.func3, Tryz.ntmps3
  go_wp2_with fail
  refine (HP.out _).mono ?_
  rintro e w2 ⟨po, pc, wo, wc, rfl, hB, hr, hc⟩
  have HJ2 : Hid (Jo w q f l w2.heap.size po pc wo wc ((w2.alloc (.cells (pcmC q po pc) 24)).alloc (.cells (waveC f l wo wc) 27))) := Jo.new hB hr hc pc wc
  clear HP hB hr hc
  have k3 := HR.out ((w2.alloc (.cells (pcmC q po pc) 24)).alloc (.cells (waveC f l wo wc) 27))
  go_wp2_with fail
  refine k3.mono ?_
  rintro e w3 ⟨ao, ac, oo, oc, rfl, hB3, hr3, hc3⟩
  have HJ3 : Hid (Jb w q f l w2.heap.size po pc wo wc w3.heap.size ao ac oo oc ((w3.alloc (.cells (pcmC q ao ac) 24)).alloc (.cells (waveC f l oo oc) 27))) := by
    exact ⟨((HJ2.out.next hB3).next (belA _ _)).next (belA _ _), Jo.new (HJ2.out.next hB3).below hr3 hc3 ac oc⟩
  clear k3 HR hB3 hr3 hc3 HJ2
  go_upto_region 3 with fail
  generalize hw4 : World.alloc (World.alloc w3 _) _ = w4
  generalize hR : w3.heap.size = R at *
  generalize hQ : w2.heap.size = Q at *
  have HJ4 : Hid (Jb w q f l Q po pc wo wc R ao ac oo oc w4) := by
    rw [← hw4]
    exact HJ3.out
  clear hw4 hR hQ HJ3
  have KS : Hid (∀ wx, Hid (Jb w q f l Q po pc wo wc R ao ac oo oc wx) → Calls Tryz.prog 8 #[pcmV q po pc, pcmV q ao ac] wx fun e w' => e = .returned (.bool true) ∧ Hid (Jb w q f l Q po pc wo wc R ao ac oo oc w')) := fun wx hx => by
    have h := rsame_spec q q po ao pc ac wx hx.out.a.pb.rows hx.out.b.pb.rows
    rw [sameB_refl] at h
    exact h.mono fun e w' h => ⟨h.1, hx.out.next h.2⟩
  have KW : Hid (∀ wx, Hid (Jb w q f l Q po pc wo wc R ao ac oo oc wx) → Calls Tryz.prog 9 #[.agg (waveC f l wo wc), .agg (waveC f l oo oc)] wx fun e w' => e = .returned (.bool true) ∧ Hid (Jb w q f l Q po pc wo wc R ao ac oo oc w')) := fun wx hx =>
    (sameA_spec f l HLN.out wo oo wc oc wx hx.out.a.wb.chks hx.out.b.wb.chks).mono fun e w' h => ⟨h.1, hx.out.next h.2⟩
  have KA : Hid (∀ wx, Hid (Jb w q f l Q po pc wo wc R ao ac oo oc wx) → Calls Tryz.prog 10 #[] wx fun e w' => e = .returned (.bool true) ∧ Hid (Jb w q f l Q po pc wo wc R ao ac oo oc w')) := fun wx hx => (awake7_spec wx).mono fun e w' h => ⟨h.1, hx.out.next h.2⟩
  have HS : Hid (∀ wx, Hid (Jb w q f l Q po pc wo wc R ao ac oo oc wx) → wx.cell? ⟨Q, 0, none⟩ = some (.int .i64 q.rate) ∧ wx.cell? ⟨Q, 1, none⟩ = some (.int .i64 q.ch) ∧ wx.cell? ⟨Q, 2, none⟩ = some (.int .i64 q.wd) ∧ wx.cell? ⟨Q, 3, none⟩ = some (.slice po q.pl.length pc) ∧ wx.cell? ⟨(Q + 1), 0, none⟩ = some (.string f) ∧ wx.cell? ⟨(Q + 1), 1, none⟩ = some (.slice wo l.length wc) ∧ wx.cell? ⟨R, 0, none⟩ = some (.int .i64 q.rate) ∧ wx.cell? ⟨R, 1, none⟩ = some (.int .i64 q.ch) ∧ wx.cell? ⟨R, 2, none⟩ = some (.int .i64 q.wd) ∧ wx.cell? ⟨R, 3, none⟩ = some (.slice ao q.pl.length ac) ∧ wx.cell? ⟨(R + 1), 0, none⟩ = some (.string f) ∧ wx.cell? ⟨(R + 1), 1, none⟩ = some (.slice oo l.length oc)) := fun wx hx => ⟨hx.out.a.pb.p 0 _ rfl, hx.out.a.pb.p 1 _ rfl, hx.out.a.pb.p 2 _ rfl, hx.out.a.pb.p 3 _ rfl, hx.out.a.wb.p 0 _ rfl, hx.out.a.wb.p 1 _ rfl, hx.out.b.pb.p 0 _ rfl, hx.out.b.pb.p 1 _ rfl, hx.out.b.pb.p 2 _ rfl, hx.out.b.pb.p 3 _ rfl, hx.out.b.wb.p 0 _ rfl, hx.out.b.wb.p 1 _ rfl⟩
  have HD : Hid (Jb w q f l Q po pc wo wc R ao ac oo oc w4.drew) := HJ4.out.next ⟨rfl, rfl, rfl, Nat.le_refl _, fun _ _ => rfl⟩
  have hEE : (E == E) = true := by simp
  obtain ⟨s0, s1, s2, s3, s4, s5, s6, s7, s8, s9, s10, s11⟩ := HS.out _ HJ4
  clear HD
  go_wp2_with fail
  refine (KS.out _ HJ4).mono ?_
  rintro e w8 ⟨rfl, h8⟩
  clear s0 s1 s2 s3 s4 s5 s6 s7 s8 s9 s10 s11 HJ4 KS
  obtain ⟨s0, s1, s2, s3, s4, s5, s6, s7, s8, s9, s10, s11⟩ := HS.out _ h8
  go_wp2_with fail
  refine (KW.out _ h8).mono ?_
  rintro e w10 ⟨rfl, h10⟩
  clear s0 s1 s2 s3 s4 s5 s6 s7 s8 s9 s10 s11 h8 KW HS
  go_wp2_with fail
  refine (KA.out _ h10).mono ?_
  rintro e w11 ⟨rfl, h11⟩
  have HJ9 : Hid (Jb w q f l Q po pc wo wc R ao ac oo oc w11) := h11
  go_wp2_with fail
  go_ret
  exact ⟨rfl, HJ9.out.a.below⟩


set_option maxRecDepth 100000 in
theorem lifted (os : Os) (started : os.Started) (H : Type) (enc : TypeId × Value → H) :
    ReturnsInHanded {} Tryz.checked os 3 .any (Rows.aiffParsesSpec.pre6 enc Tryz.prog Tryz.f3 Rows.aiffParsesRow.domain false) (Rows.aiffParsesSpec.post enc Tryz.prog Tryz.f3 false true false false) := by
  refine returnsInHanded_of_change_sized (C := Tryz.checked) own started (by kernel_rfl) Tryz.func3
    (ChangeSpec.witness6 (enc := enc) (C := Tryz.checked) false ⟨#[], #[.string ByteArray.empty], []⟩ 8 (by kernel_rfl) (by kernel_rfl) (by kernel_rfl) (by kernel_rfl)) ?_
  intro W base args ds gs before hval0 hW hcnd0 hsz0 hholds
  have hval : ∀ (j : Nat) t v, Tryz.f3.params[j]? = some t → args[j]? = some v → Value.okWide Tryz.prog W .any base t v := hval0
  have hsz : (DataW.weightsEach Tryz.prog (Tryz.f3.params.toList ++ Rows.aiffParsesSpec.plain.varTypes Tryz.prog) (ds ++ gs)).all (· ≤ reachBytes) = true := hsz0
  have hW' := hW
  obtain ⟨p, q, hA0, hV, rfl, hfz, hnd⟩ := hW
  have hA : DataW.TrodAll enc Tryz.prog W 0 (fun _ => true) true Tryz.f3.params.toList args.toList ds p := hA0
  rw [Tryz.params3] at hA hval hsz
  obtain ⟨v0, vs0, d0, ds0, p0, q0, hargs, rfl, rfl, h0, r0⟩ := trodAll_cons hA
  obtain ⟨rfl, rfl, rfl⟩ := trodAll_nil r0
  obtain rfl : args = #[v0] := by cases args; simp_all
  obtain ⟨rfl, rfl⟩ := trodVars_none hV
  have hall := List.all_eq_true.1 hsz
  obtain ⟨x0, rfl, rfl, rfl, i0⟩ := open_string Tryz.underlying9 (hval 0 9 v0 rfl rfl) h0
  have hq0 := sized_string hsz (j := 0) (t := 9) rfl rfl
  have hz0 : x0.size ≤ 140737488351232 := by
    have e : x0.data.toList.length = x0.size := by rw [Array.length_toList]; rfl
    rw [e] at hq0
    simp only [reachBytes] at hq0
    omega
  clear hA0 hval0
  refine (walk x0 hz0 W).mono fun e W' ⟨he, bel⟩ => ?_
  subst he
  exact ⟨_, rfl, _, _, _, [], _, [], hW', trodAll_mk1 (shut_bool Tryz.underlying4 _), (trodAll_cons_mk (shut_string Tryz.underlying9 i0) trodAll_mk0), rfl, bel.frame _, fun h => by cases h⟩

theorem over : Rows.aiffParsesRow.holds Tryz.pinned (OpenSpec.ofChange Rows.aiffParsesSpec) :=
  OpenClaim.holds_of_wide 3 Tryz.f3 rfl rfl rfl rfl rfl rfl rfl ⟨rfl, rfl, rfl, rfl, rfl⟩ rfl rfl rfl rfl rfl (by kernel_rfl) Tryz.func3 (by kernel_rfl)
    (of_decide_eq_true (by kernel_rfl)) (by unfold Func.isWrapper; first | (rw [if_pos (by decide +kernel)]; kernel_rfl) | (rw [if_neg (by decide +kernel)]; exact ⟨rfl, rfl⟩))
    (fun os started H enc _ => lifted os started H enc)

end Go.Proofs.YtaepgjheknkojaaGreat.aiffParses
namespace Go.Proofs.YtaepgjheknkojaaGreat
theorem aiffParses_holds : Rows.AiffParsesSaid := aiffParses.over
#print axioms aiffParses_holds
end Go.Proofs.YtaepgjheknkojaaGreat
