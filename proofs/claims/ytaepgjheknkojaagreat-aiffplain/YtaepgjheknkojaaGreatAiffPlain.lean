/-
  Own text: the law AiffPlain: samples that fit go into a plain file and come out as they were.
-/
import Derived.Test.YtaepgjheknkojaaGreatQ7awake
import Derived.Test.YtaepgjheknkojaaGreatQ7build
import Derived.Test.YtaepgjheknkojaaGreatG40x
import Derived.Test.YtaepgjheknkojaaGreatG5x
import Derived.WalkKit
import Derived.ProofKit
import Derived.OpenShut
import Derived.ShutString
import Derived.ChangeOld
import Derived.Below
import Derived.SizedLaws

namespace Go.Proofs.YtaepgjheknkojaaGreat.aiffPlain
open Go.ChangeShapes Go.WideShapes Go.ChangeAt Go.RowKit
open Go.ChangeMaps (open_string shut_string)
set_option linter.unusedSimpArgs false
set_option linter.unusedVariables false

theorem own : ownKnob Tryz.prog.godebug = none := by kernel_rfl
theorem laidOut : laidOutB Tryz.prog = true := by kernel_rfl

/-- The box of the samples, and what lay before. -/
structure Jl (w0 : World) (p : Pcm) (po : Option Addr) (pc : Nat) (w : World) : Prop where
  pb : PB w0.heap.size p po pc w
  below : Below w0.heap.size w0 w
theorem Jl.next {w0 w w1 : World} {p : Pcm} {po : Option Addr} {pc : Nat} (h : Jl w0 p po pc w) (hB : Below w.heap.size w w1) : Jl w0 p po pc w1 := ⟨h.pb.next hB, h.below.trans (hB.mono h.below.size)⟩
/-- And the boxes of what came back. -/
structure Jw (w0 : World) (p : Pcm) (po : Option Addr) (pc Q : Nat) (ao : Option Addr) (ac : Nat) (oo : Option Addr) (oc : Nat) (w : World) : Prop where
  jl : Jl w0 p po pc w
  pb : PB Q p ao ac w
  wb : WB (Q + 1) aiffT (pl7L p) oo oc w
theorem Jw.next {w0 w w1 : World} {p : Pcm} {po : Option Addr} {pc Q : Nat} {ao : Option Addr} {ac : Nat} {oo : Option Addr} {oc : Nat} (h : Jw w0 p po pc Q ao ac oo oc w) (hB : Below w.heap.size w w1) : Jw w0 p po pc Q ao ac oo oc w1 := ⟨h.jl.next hB, h.pb.next hB, h.wb.next hB⟩
theorem field_aiff (a b : Value) (w : World) : (Instr.field 27 (.agg #[a, b]) 1).run Tryz.prog w = .ok b w := by
  unfold Instr.field
  have hu := Tryz.underlying27
  go_simp
  rfl
theorem Plain_yes (p : Pcm) (hf : fitsN 2 p = 0) (po : Option Addr) (pc : Nat) (w : World) (hr : RowsAt w po p.pl) : Calls Tryz.prog 13 #[pcmV p po pc] w fun e w' => ∃ wo wc, e = .returned (.agg (waveC aiffT (pl7L p) wo wc)) ∧ ChksAt w' wo (pl7L p) ∧ Below w.heap.size w w' := by
  have h := Plain7_spec p po pc w hr
  refine h.mono fun e w' h => ?_
  obtain ⟨wo, wc, e1, h2, h3⟩ := h
  rw [(pl7_eq p hf).2] at e1
  exact ⟨wo, wc, e1, h2, h3⟩
theorem Plain_not (p : Pcm) (hf : fitsN 2 p ≠ 0) (po : Option Addr) (pc : Nat) (w : World) (hr : RowsAt w po p.pl) : Calls Tryz.prog 13 #[pcmV p po pc] w fun e w' => ∃ wo wc, e = .returned (.agg #[.string ⟨#[]⟩, .slice wo 0 wc]) ∧ Below w.heap.size w w' := by
  have h := Plain7_spec p po pc w hr
  refine h.mono fun e w' h => ?_
  obtain ⟨wo, wc, e1, _, h3⟩ := h
  unfold pl7F pl7L at e1
  rw [if_neg hf, if_neg hf] at e1
  exact ⟨wo, wc, e1, h3⟩
theorem Parse_plain (p : Pcm) (hf : fitsN 2 p = 0) (w : World) : Calls Tryz.prog 6 #[.string (b7T p aiffT (pl7L p))] w fun e w' => ∃ po pc wo wc, e = .returned (.tuple #[pcmV p po pc, .agg (waveC aiffT (pl7L p) wo wc), .int .i64 0]) ∧ Below w.heap.size w w' ∧ RowsAt w' po p.pl ∧ ChksAt w' wo (pl7L p) := by
  obtain ⟨_, h2, h4, h5, h6, h7⟩ := hold7 p aiffT (pl7L p) hf (plain_ok7 p hf)
  generalize b7T p aiffT (pl7L p) = S at *
  refine (Parse7_spec S w (by omega)).mono fun e w' h => ?_
  obtain ⟨q, po, pc, wf, l, wo, wc, e1, hB, hr, hc, hy, _⟩ := h
  obtain ⟨y1, y2, y3⟩ := hy h4
  rw [h5] at y1
  rw [h6] at y2
  rw [h7] at y3
  subst y1
  subst y2
  subst y3
  rw [h4] at e1
  exact ⟨po, pc, wo, wc, e1, hB, hr, hc⟩

set_option maxRecDepth 20000 in
set_option maxHeartbeats 3200000 in
theorem walk (p : Pcm) (po : Option Addr) (pc : Nat) (fp : Fair p) (w : World) (rp : RowsAt w po p.pl) :
    Calls Tryz.prog 5 #[pcmV p po pc] w fun e w' => e = .returned (.bool true) ∧ Below w.heap.size w w' := by
  have HJ0 : Hid (Jl w p po pc (w.alloc (.cells (pcmC p po pc) 24))) := ⟨PB.new rp pc, belA _ _⟩
  have kf := rfits_spec 2 p po pc (w.alloc (.cells (pcmC p po pc) 24)) HJ0.out.pb.rows
  have x0 := HJ0.out.pb.p 0 _ rfl
  have x1 := HJ0.out.pb.p 1 _ rfl
  have x2 := HJ0.out.pb.p 2 _ rfl
  have x3 := HJ0.out.pb.p 3 _ rfl
  go_enter Tryz.func5, Tryz.ntmps5
  go_wp2_with fail
  refine kf.mono ?_
  rintro e w2 ⟨rfl, hB2⟩
  have HJ2 : Hid (Jl w p po pc w2) := HJ0.out.next hB2
  clear kf hB2 HJ0 x0 x1 x2 x3 rp
  by_cases h0 : fitsN 2 p = 0
  · have bE := (hold7 p aiffT (pl7L p) h0 (plain_ok7 p h0)).1
    have hfp7 := fair_plain7 p h0
    have KP : Hid (∀ wx, Hid (Jl w p po pc wx) → Calls Tryz.prog 13 #[pcmV p po pc] wx fun e w' => ∃ wo wc, e = .returned (.agg (waveC aiffT (pl7L p) wo wc)) ∧ Hid (Jl w p po pc w') ∧ Hid (ChksAt w' wo (pl7L p))) := fun wx hx => (Plain_yes p h0 po pc wx hx.out.pb.rows).mono fun e w' h => by
      obtain ⟨wo, wc, e1, h2, h3⟩ := h
      exact ⟨wo, wc, e1, hx.out.next h3, h2⟩
    have KB : Hid (∀ wo wq wx, Hid (Jl w p po pc wx) → Hid (ChksAt wx wo (pl7L p)) → Calls Tryz.prog 11 #[pcmV p po pc, .agg (waveC aiffT (pl7L p) wo wq)] wx fun e w' => e = .returned (.tuple #[.string (b7T p aiffT (pl7L p)), .int .i64 0]) ∧ Hid (Jl w p po pc w')) := fun wo wq wx hx hc => by
      have h := Build7_spec p po pc aiffT (pl7L p) wo wq wx hx.out.pb.rows hc.out hfp7.1 (by rw [hfp7.2]; decide) (by decide)
      rw [bE] at h
      exact h.mono fun e w' h => ⟨h.1, hx.out.next h.2⟩
    have KR : Hid (∀ wx, Calls Tryz.prog 6 #[.string (b7T p aiffT (pl7L p))] wx fun e w' => ∃ po pc wo wc, e = .returned (.tuple #[pcmV p po pc, .agg (waveC aiffT (pl7L p) wo wc), .int .i64 0]) ∧ Below wx.heap.size wx w' ∧ RowsAt w' po p.pl ∧ ChksAt w' wo (pl7L p)) := Parse_plain p h0
    have HPY : Hid (fitsN 2 p = 0) := h0
    rw [h0]
    have HLN : Hid ((pl7L p).length ≤ 9000000000000000) := by show _ ≤ _; rw [hfp7.2]; decide
    clear h0 bE hfp7
    generalize b7T p aiffT (pl7L p) = X at *
    go_wp2_with fail
    have HS : Hid (∀ wx, Hid (Jl w p po pc wx) → wx.cell? ⟨w.heap.size, 0, none⟩ = some (.int .i64 p.rate) ∧ wx.cell? ⟨w.heap.size, 1, none⟩ = some (.int .i64 p.ch) ∧ wx.cell? ⟨w.heap.size, 2, none⟩ = some (.int .i64 p.wd) ∧ wx.cell? ⟨w.heap.size, 3, none⟩ = some (.slice po p.pl.length pc)) := fun wx hx => ⟨hx.out.pb.p 0 _ rfl, hx.out.pb.p 1 _ rfl, hx.out.pb.p 2 _ rfl, hx.out.pb.p 3 _ rfl⟩
    have HD : Hid (Jl w p po pc w2.drew) := HJ2.out.next ⟨rfl, rfl, rfl, Nat.le_refl _, fun _ _ => rfl⟩
    go_region_held3 (fun wx => wx.cell? ⟨w.heap.size, 0, none⟩ = some (.int .i64 p.rate) ∧ wx.cell? ⟨w.heap.size, 1, none⟩ = some (.int .i64 p.ch) ∧ wx.cell? ⟨w.heap.size, 2, none⟩ = some (.int .i64 p.wd) ∧ wx.cell? ⟨w.heap.size, 3, none⟩ = some (.slice po p.pl.length pc)) (exact HS.out _ (by assumption))
      (first
        | (go_at_call 13; refine (KP.out _ (by assumption)).mono ?_; rintro e w4 ⟨wo, wq, rfl, h4, q4⟩)
        | (go_at_call 11; refine (KB.out _ _ _ (by assumption) (by assumption)).mono ?_; rintro e w5 ⟨rfl, h5⟩))
    have HJ5 : Hid (Jl w p po pc w5) := h5
    clear h4 q4 h5 HS HD KB HJ2
    have k6 := KR.out w5
    go_wp2_with fail
    refine k6.mono ?_
    rintro e w6 ⟨ao, ac, oo, oc, rfl, hB6, r6, q6⟩
    have HJ7 : Hid (Jw w p po pc w6.heap.size ao ac oo oc ((w6.alloc (.cells (pcmC p ao ac) 24)).alloc (.cells (waveC aiffT (pl7L p) oo oc) 27))) := by
      refine ⟨((HJ5.out.next hB6).next (belA _ _)).next (belA _ _), (PB.new r6 ac).next (belA _ _), ?_⟩
      have h := WB.new (f := aiffT) (q6.below (belA w6 (.cells (pcmC p ao ac) 24))) oc
      rw [show (w6.alloc (.cells (pcmC p ao ac) 24)).heap.size = w6.heap.size + 1 from by simp] at h
      exact h
    clear k6 hB6 r6 q6 HJ5 KR
    go_wp2_with fail
    generalize hw7 : World.alloc (World.alloc w6 _) _ = w7
    generalize hQ : w6.heap.size = Q at *
    have HJ8 : Hid (Jw w p po pc Q ao ac oo oc w7) := by
      rw [← hw7]
      exact HJ7.out
    clear hw7 hQ HJ7
    have KP2 : Hid (∀ wx, Hid (Jw w p po pc Q ao ac oo oc wx) → Calls Tryz.prog 13 #[pcmV p po pc] wx fun e w' => ∃ wo wc, e = .returned (.agg (waveC aiffT (pl7L p) wo wc)) ∧ Hid (Jw w p po pc Q ao ac oo oc w') ∧ Hid (ChksAt w' wo (pl7L p))) := fun wx hx => (Plain_yes p HPY.out po pc wx hx.out.jl.pb.rows).mono fun e w' h => by
      obtain ⟨wo, wc, e1, h2, h3⟩ := h
      exact ⟨wo, wc, e1, hx.out.next h3, h2⟩
    have KS : Hid (∀ wx, Hid (Jw w p po pc Q ao ac oo oc wx) → Calls Tryz.prog 8 #[pcmV p po pc, pcmV p ao ac] wx fun e w' => e = .returned (.bool true) ∧ Hid (Jw w p po pc Q ao ac oo oc w')) := fun wx hx => by
      have h := rsame_spec p p po ao pc ac wx hx.out.jl.pb.rows hx.out.pb.rows
      rw [sameB_refl] at h
      exact h.mono fun e w' h => ⟨h.1, hx.out.next h.2⟩
    have KW : Hid (∀ wo wq wx, Hid (Jw w p po pc Q ao ac oo oc wx) → Hid (ChksAt wx wo (pl7L p)) → Calls Tryz.prog 9 #[.agg (waveC aiffT (pl7L p) oo oc), .agg (waveC aiffT (pl7L p) wo wq)] wx fun e w' => e = .returned (.bool true) ∧ Hid (Jw w p po pc Q ao ac oo oc w')) := fun wo wq wx hx hc =>
      (sameA_spec aiffT (pl7L p) HLN.out oo wo oc wq wx hx.out.wb.chks hc.out).mono fun e w' h => ⟨h.1, hx.out.next h.2⟩
    have KA : Hid (∀ wx, Hid (Jw w p po pc Q ao ac oo oc wx) → Calls Tryz.prog 10 #[] wx fun e w' => e = .returned (.bool true) ∧ Hid (Jw w p po pc Q ao ac oo oc w')) := fun wx hx => (awake7_spec wx).mono fun e w' h => ⟨h.1, hx.out.next h.2⟩
    have HS : Hid (∀ wx, Hid (Jw w p po pc Q ao ac oo oc wx) → wx.cell? ⟨w.heap.size, 0, none⟩ = some (.int .i64 p.rate) ∧ wx.cell? ⟨w.heap.size, 1, none⟩ = some (.int .i64 p.ch) ∧ wx.cell? ⟨w.heap.size, 2, none⟩ = some (.int .i64 p.wd) ∧ wx.cell? ⟨w.heap.size, 3, none⟩ = some (.slice po p.pl.length pc) ∧ wx.cell? ⟨Q, 0, none⟩ = some (.int .i64 p.rate) ∧ wx.cell? ⟨Q, 1, none⟩ = some (.int .i64 p.ch) ∧ wx.cell? ⟨Q, 2, none⟩ = some (.int .i64 p.wd) ∧ wx.cell? ⟨Q, 3, none⟩ = some (.slice ao p.pl.length ac) ∧ wx.cell? ⟨(Q + 1), 0, none⟩ = some (.string aiffT) ∧ wx.cell? ⟨(Q + 1), 1, none⟩ = some (.slice oo (pl7L p).length oc)) := fun wx hx => ⟨hx.out.jl.pb.p 0 _ rfl, hx.out.jl.pb.p 1 _ rfl, hx.out.jl.pb.p 2 _ rfl, hx.out.jl.pb.p 3 _ rfl, hx.out.pb.p 0 _ rfl, hx.out.pb.p 1 _ rfl, hx.out.pb.p 2 _ rfl, hx.out.pb.p 3 _ rfl, hx.out.wb.p 0 _ rfl, hx.out.wb.p 1 _ rfl⟩
    have HD : Hid (Jw w p po pc Q ao ac oo oc w7.drew) := HJ8.out.next ⟨rfl, rfl, rfl, Nat.le_refl _, fun _ _ => rfl⟩
    clear KP HPY
    go_region_held3 (fun wx => wx.cell? ⟨w.heap.size, 0, none⟩ = some (.int .i64 p.rate) ∧ wx.cell? ⟨w.heap.size, 1, none⟩ = some (.int .i64 p.ch) ∧ wx.cell? ⟨w.heap.size, 2, none⟩ = some (.int .i64 p.wd) ∧ wx.cell? ⟨w.heap.size, 3, none⟩ = some (.slice po p.pl.length pc) ∧ wx.cell? ⟨Q, 0, none⟩ = some (.int .i64 p.rate) ∧ wx.cell? ⟨Q, 1, none⟩ = some (.int .i64 p.ch) ∧ wx.cell? ⟨Q, 2, none⟩ = some (.int .i64 p.wd) ∧ wx.cell? ⟨Q, 3, none⟩ = some (.slice ao p.pl.length ac) ∧ wx.cell? ⟨(Q + 1), 0, none⟩ = some (.string aiffT) ∧ wx.cell? ⟨(Q + 1), 1, none⟩ = some (.slice oo (pl7L p).length oc)) (exact HS.out _ (by assumption))
      (first
        | (go_at_call 8; refine (KS.out _ (by assumption)).mono ?_; rintro e w8 ⟨rfl, h8⟩)
        | (go_at_call 13; refine (KP2.out _ (by assumption)).mono ?_; rintro e w9 ⟨wo9, wq9, rfl, h9, q9⟩)
        | (go_at_call 9; refine (KW.out _ _ _ (by assumption) (by assumption)).mono ?_; rintro e w10 ⟨rfl, h10⟩)
        | (go_at_call 10; refine (KA.out _ (by assumption)).mono ?_; rintro e w11 ⟨rfl, h11⟩))
    have HJ9 : Hid (Jw w p po pc Q ao ac oo oc w11) := h11
    go_wp2_with fail
    go_ret
    exact ⟨rfl, HJ9.out.jl.below⟩
  · have hE : (fitsN 2 p != 0) = true := by simpa using h0
    have kp := Plain_not p h0 po pc w2 HJ2.out.pb.rows
    clear h0
    generalize fitsN 2 p = E at *
    have x0 := HJ2.out.pb.p 0 _ rfl
    have x1 := HJ2.out.pb.p 1 _ rfl
    have x2 := HJ2.out.pb.p 2 _ rfl
    have x3 := HJ2.out.pb.p 3 _ rfl
    go_wp2_with fail
    refine kp.mono ?_
    rintro e w3 ⟨wo, wc, rfl, hB3⟩
    have HJ3 : Hid (Jl w p po pc w3) := HJ2.out.next hB3
    clear kp hB3 HJ2 x0 x1 x2 x3
    have ka := awake7_spec w3
    have hfw := field_aiff
    go_wp2_with fail
    refine ka.mono ?_
    rintro e w5 ⟨rfl, hB5⟩
    have HB5 : Hid (Below w.heap.size w w5) := (HJ3.out.next hB5).below
    clear ka hB5 HJ3
    go_wp2_with fail
    go_ret
    exact ⟨rfl, HB5.out⟩


set_option maxRecDepth 100000 in
theorem lifted (os : Os) (started : os.Started) (H : Type) (enc : TypeId × Value → H) :
    ReturnsInHanded {} Tryz.checked os 5 .any (Rows.aiffPlainSpec.pre6 enc Tryz.prog Tryz.f5 Rows.aiffPlainRow.domain false) (Rows.aiffPlainSpec.post enc Tryz.prog Tryz.f5 false true false false) := by
  refine returnsInHanded_of_change_sized (C := Tryz.checked) own started (by kernel_rfl) Tryz.func5
    (ChangeSpec.witness6 (enc := enc) (C := Tryz.checked) false ⟨#[], #[.agg #[.int .i64 0, .int .i64 0, .int .i64 0, .slice none 0 0]], []⟩ 8 (by kernel_rfl) (by kernel_rfl) (by kernel_rfl) (by kernel_rfl)) ?_
  intro W base args ds gs before hval0 hW hcnd0 hsz0 hholds
  have hval : ∀ (j : Nat) t v, Tryz.f5.params[j]? = some t → args[j]? = some v → Value.okWide Tryz.prog W .any base t v := hval0
  have hsz : (DataW.weightsEach Tryz.prog (Tryz.f5.params.toList ++ Rows.aiffPlainSpec.plain.varTypes Tryz.prog) (ds ++ gs)).all (· ≤ reachBytes) = true := hsz0
  have hW' := hW
  obtain ⟨p, q, hA0, hV, rfl, hfz, hnd⟩ := hW
  have hA : DataW.TrodAll enc Tryz.prog W 0 (fun _ => true) true Tryz.f5.params.toList args.toList ds p := hA0
  rw [Tryz.params5] at hA hval hsz
  obtain ⟨v0, vs0, d0, ds0, p0, q0, hargs, rfl, rfl, h0, r0⟩ := trodAll_cons hA
  obtain ⟨rfl, rfl, rfl⟩ := trodAll_nil r0
  obtain rfl : args = #[v0] := by cases args; simp_all
  obtain ⟨rfl, rfl⟩ := trodVars_none hV
  have hall := List.all_eq_true.1 hsz
  have hw0 : ∀ n ∈ d0.weights Tryz.prog 24, n ≤ reachBytes := fun n hn => by
    have := hall n (List.mem_append.2 (.inl hn))
    exact of_decide_eq_true this
  have k0 := h0
  have lt0 : ∀ x ∈ p0, x.block < W.heap.size := by obtain ⟨m, hm⟩ := k0; exact DataW.trod_lt m _ _ _ hm
  obtain ⟨x0, o0, c0, rfl, hr0, hf0⟩ := open_pcm0 (hval 0 24 v0 rfl rfl) h0 hw0
  clear hA0 hval0
  refine (walk x0 o0 c0 hf0 W hr0).mono fun e W' ⟨he, bel⟩ => ?_
  subst he
  exact ⟨_, rfl, _, _, _, [], _, [], hW', trodAll_mk1 (shut_bool Tryz.underlying4 _), (trodAll_cons_mk (Below.trod laidOut (by kernel_rfl) (of_decide_eq_true (by kernel_rfl)) k0 bel lt0) trodAll_mk0), rfl, bel.frame _, fun h => by cases h⟩

theorem over : Rows.aiffPlainRow.holds Tryz.pinned (OpenSpec.ofChange Rows.aiffPlainSpec) :=
  OpenClaim.holds_of_wide 5 Tryz.f5 rfl rfl rfl rfl rfl rfl rfl ⟨rfl, rfl, rfl, rfl, rfl⟩ rfl rfl rfl rfl rfl (by kernel_rfl) Tryz.func5 (by kernel_rfl)
    (of_decide_eq_true (by kernel_rfl)) (by unfold Func.isWrapper; first | (rw [if_pos (by decide +kernel)]; kernel_rfl) | (rw [if_neg (by decide +kernel)]; exact ⟨rfl, rfl⟩))
    (fun os started H enc _ => lifted os started H enc)

end Go.Proofs.YtaepgjheknkojaaGreat.aiffPlain
namespace Go.Proofs.YtaepgjheknkojaaGreat
theorem aiffPlain_holds : Rows.AiffPlainSaid := aiffPlain.over
#print axioms aiffPlain_holds
end Go.Proofs.YtaepgjheknkojaaGreat
