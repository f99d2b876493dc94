/-
 Own text: the law AiffBuilds, where what it reads is of the given bulk: any PCM and skeleton as a file, or the error; the plain skeleton.
-/
import Derived.Test.YtaepgjheknkojaaGreatR7build
import Derived.Test.YtaepgjheknkojaaGreatH11x
import Derived.Test.YtaepgjheknkojaaGreatG35x
import Derived.Test.YtaepgjheknkojaaGreatG11x
import Derived.Test.YtaepgjheknkojaaGreatG14x
import Derived.WalkKit
import Derived.ProofKit
import Derived.OpenShut
import Derived.ShutString
import Derived.ChangeOld
import Derived.Below
import Derived.JoinedCond
import Derived.Deep.CondSized
import Derived.Deep.RegionHeld3
import Derived.Deep.CutRange
namespace Go.Proofs.YtaepgjheknkojaaGreat.aiffBuilds
open Go.ChangeShapes Go.WideShapes Go.ChangeAt Go.RowKit
open Go.ChangeMaps (open_string shut_string)
set_option linter.unusedSimpArgs false
set_option linter.unusedVariables false

theorem own : ownKnob Tryz.prog.godebug = none := by kernel_rfl
theorem laidOut : laidOutB Tryz.prog = true := by kernel_rfl
set_option maxRecDepth 20000 in
set_option maxHeartbeats 3200000 in
theorem walk (p : Pcm) (po : Option Addr) (pc : Nat) (fp : Fair p) (f : ByteArray) (l : List Chk) (ao : Option Addr) (cap : Nat) (hfz : f.size ≤ 1048576) (hb : bulkL l ≤ 1048576) (hp : ∀ c ∈ l, -9223372036854775808 ≤ c.pad ∧ c.pad ≤ 9223372036854775807) (w : World) (hr : RowsAt w po p.pl) (hl : ChksAt w ao l) :
  Calls Tryz.prog 4 #[pcmV p po pc, .agg (waveC f l ao cap)] w fun e w' => e = .returned (.bool true) ∧ Below w.heap.size w w' := by
 have HJ0 : Hid (Jd w p po pc f l ao cap ((w.alloc (.cells (pcmC p po pc) 24)).alloc (.cells (waveC f l ao cap) 27))) := Jd.new hr hl pc cap
 have hll : l.length ≤ 1048576 := by
  have := bulk_len l
  omega
 have kb := Build7_spec p po pc f l ao cap ((w.alloc (.cells (pcmC p po pc) 24)).alloc (.cells (waveC f l ao cap) 27)) HJ0.out.pb.rows HJ0.out.wb.chks (bulk_fairT l hb) (by omega) (by omega)
 have KD : Hid (∀ wx, Jd w p po pc f l ao cap wx → Calls Tryz.prog 12 #[pcmV p po pc, .agg (waveC f l ao cap)] wx fun e w' => e = .returned (.tuple #[.string (b7T p f l), .int .i64 (b7E p f l)]) ∧ Below wx.heap.size wx w') := fun wx hx => r7build_spec p po pc f l ao cap wx hx.pb.rows hx.wb.chks (by omega) (bulk_fairT l hb) (fun h0 => dL_fair p f l h0 hb hp) (by omega)
 have hlp := len_of p hr
 have HLN : Hid ((pl7L p).length ≤ 9000000000000000) := by
  show _ ≤ _
  by_cases h0 : fitsN 2 p = 0
  ·rw [(fair_plain7 p h0).2]
   decide
  ·unfold pl7L
   rw [if_neg h0]
   decide
 have KP : Hid (∀ wx, Hid (Jd w p po pc f l ao cap wx) → Calls Tryz.prog 13 #[pcmV p po pc] wx fun e w' => ∃ wo wc, e = .returned (.agg (waveC (pl7F p) (pl7L p) wo wc)) ∧ Hid (Jd w p po pc f l ao cap w') ∧ Hid (ChksAt w' wo (pl7L p) ∧ Below wx.heap.size wx w')) := fun wx hx => (Plain7_spec p po pc wx hx.out.pb.rows).mono fun e w' h => by
  obtain ⟨wo, wc, e1, h2, h3⟩ := h
  exact ⟨wo, wc, e1, hx.out.next h3, h2, h3⟩
 have KR : Hid (∀ wx, Hid (Jd w p po pc f l ao cap wx) → Calls Tryz.prog 14 #[pcmV p po pc] wx fun e w' => ∃ wo wc, e = .returned (.agg (waveC (pl7F p) (pl7L p) wo wc)) ∧ Hid (Jd w p po pc f l ao cap w') ∧ Hid (ChksAt w' wo (pl7L p) ∧ Below wx.heap.size wx w')) := fun wx hx => (r7plain_spec p po pc wx hx.out.pb.rows fp (by omega)).mono fun e w' h => by
  obtain ⟨wo, wc, e1, h2, h3⟩ := h
  exact ⟨wo, wc, e1, hx.out.next h3, h2, h3⟩
 have KW : Hid (∀ so bo ac bc wx, Hid (Jd w p po pc f l ao cap wx) → ChksAt wx so (pl7L p) → ChksAt wx bo (pl7L p) → Calls Tryz.prog 9 #[.agg (waveC (pl7F p) (pl7L p) so ac), .agg (waveC (pl7F p) (pl7L p) bo bc)] wx fun e w' => e = .returned (.bool true) ∧ Hid (Jd w p po pc f l ao cap w')) := fun ao' bo ac bc wx hx h1 h2 =>
  (sameA_spec (pl7F p) (pl7L p) HLN.out ao' bo ac bc wx h1 h2).mono fun e w' h => ⟨h.1, hx.out.next h.2⟩
 have KA : Hid (∀ wx, Hid (Jd w p po pc f l ao cap wx) → Calls Tryz.prog 10 #[] wx fun e w' => e = .returned (.bool true) ∧ Hid (Jd w p po pc f l ao cap w')) := fun wx hx => (awake7_spec wx).mono fun e w' h => ⟨h.1, hx.out.next h.2⟩
 have HS : Hid (∀ wx, Hid (Jd w p po pc f l ao cap wx) → wx.cell? ⟨w.heap.size, 0, none⟩ = some (.int .i64 p.rate) ∧ wx.cell? ⟨w.heap.size, 1, none⟩ = some (.int .i64 p.ch) ∧ wx.cell? ⟨w.heap.size, 2, none⟩ = some (.int .i64 p.wd) ∧ wx.cell? ⟨w.heap.size, 3, none⟩ = some (.slice po p.pl.length pc)) := fun wx hx => ⟨hx.out.pb.p 0 _ rfl, hx.out.pb.p 1 _ rfl, hx.out.pb.p 2 _ rfl, hx.out.pb.p 3 _ rfl⟩
 generalize b7T p f l = X at *
 generalize b7E p f l = E at *
 generalize pl7F p = PF at *
 generalize pl7L p = PLL at *
 clear hr hl hb hp hfz hlp HLN
 have x0 := HJ0.out.pb.p 0 _ rfl
 have x1 := HJ0.out.pb.p 1 _ rfl
 have x2 := HJ0.out.pb.p 2 _ rfl
 have x3 := HJ0.out.pb.p 3 _ rfl
 have y0 := HJ0.out.wb.p 0 _ rfl
 have y1 := HJ0.out.wb.p 1 _ rfl
 go_enter Tryz.func4, Tryz.ntmps4
 go_wp2_with fail
 refine kb.mono ?_
 rintro e w2 ⟨rfl, hB2⟩
 have HJ2 : Hid (Jd w p po pc f l ao cap w2) := HJ0.out.next hB2
 clear kb hB2 HJ0 x0 x1 x2 x3 y0 y1
 have x0 := HJ2.out.pb.p 0 _ rfl
 have x1 := HJ2.out.pb.p 1 _ rfl
 have x2 := HJ2.out.pb.p 2 _ rfl
 have x3 := HJ2.out.pb.p 3 _ rfl
 have y0 := HJ2.out.wb.p 0 _ rfl
 have y1 := HJ2.out.wb.p 1 _ rfl
 have k3 := KD.out w2 HJ2.out
 go_wp2_with fail
 refine k3.mono ?_
 rintro e w3 ⟨rfl, hB3⟩
 have HJ3 : Hid (Jd w p po pc f l ao cap w3) := HJ2.out.next hB3
 clear k3 hB3 HJ2 x0 x1 x2 x3 y0 y1 KD
 have hXX : (X.toList == X.toList) = true := by simp
 have hEE : (E == E) = true := by simp
 go_upto_region 3 with fail
 have HD : Hid (Jd w p po pc f l ao cap w3.drew) := HJ3.out.next ⟨rfl, rfl, rfl, Nat.le_refl _, fun _ _ => rfl⟩
 go_region_held3 (fun wx => wx.cell? ⟨w.heap.size, 0, none⟩ = some (.int .i64 p.rate) ∧ wx.cell? ⟨w.heap.size, 1, none⟩ = some (.int .i64 p.ch) ∧ wx.cell? ⟨w.heap.size, 2, none⟩ = some (.int .i64 p.wd) ∧ wx.cell? ⟨w.heap.size, 3, none⟩ = some (.slice po p.pl.length pc)) (exact HS.out _ (by assumption))
  (first
   | (go_at_call 13; refine (KP.out _ (by assumption)).mono ?_; rintro e w4 ⟨wo4, wq4, rfl, h4, q4⟩)
   | (go_at_call 14; refine (KR.out _ (by assumption)).mono ?_; rintro e w5 ⟨wo5, wq5, rfl, h5, q5⟩)
   | (go_at_call 9; refine (KW.out _ _ _ _ _ (by assumption) (by first | exact q4.out.1 | exact q4.out.1.below q5.out.2) (by first | exact q5.out.1 | exact q5.out.1.below q4.out.2)).mono ?_; rintro e w10 ⟨rfl, h10⟩)
   | (go_at_call 10; refine (KA.out _ (by assumption)).mono ?_; rintro e w11 ⟨rfl, h11⟩))
 all_goals
  have HJ9 : Hid (Jd w p po pc f l ao cap w11) := h11
  go_wp2_with fail
  go_ret
  exact ⟨rfl, HJ9.out.below⟩

set_option maxRecDepth 100000 in
theorem lifted (os : Os) (started : os.Started) (H : Type) (enc : TypeId × Value → H) (F : Stop.Interp) :
  ReturnsInHanded {} Tryz.checked os 4 .any ((Rows.OpenSpec.upto Rows.aiffBuildsSpec).pre6 enc Tryz.prog Tryz.f4 Rows.aiffBuildsUptoRow.domain false) (((Rows.OpenSpec.upto Rows.aiffBuildsSpec).at F).post enc Tryz.prog Tryz.f4 false true false false) := by
 refine returnsInHanded_of_cond_sized (C := Tryz.checked) (s := Rows.OpenSpec.upto Rows.aiffBuildsSpec) (k := Rows.uptoSmall) rfl own started (by kernel_rfl) Tryz.func4
  (OpenSpec.witness (enc := enc) (C := Tryz.checked) (s := Rows.OpenSpec.upto Rows.aiffBuildsSpec) (k := Rows.uptoSmall) rfl false ⟨#[], #[.agg #[.int .i64 0, .int .i64 0, .int .i64 0, .slice none 0 0], .agg #[.string ByteArray.empty, .slice none 0 0]], []⟩ 8 (by kernel_rfl) (by kernel_rfl) (by kernel_rfl)
   (x := ([.agg [.lit (.int .i64 0), .lit (.int .i64 0), .lit (.int .i64 0), .nil], .agg [.lit (.string []), .nil]], [], [])) (by kernel_rfl) rfl (by kernel_rfl)) ?_
 intro W base args ds gs before hval0 hW _ hk hsz0 _
 have hval : ∀ (j : Nat) t v, Tryz.f4.params[j]? = some t → args[j]? = some v → Value.okWide Tryz.prog W .any base t v := hval0
 have hcond : Rows.uptoSmall H (ds ++ gs) = true := hk
 have hsz : (DataW.weightsEach Tryz.prog (Tryz.f4.params.toList ++ Rows.aiffBuildsSpec.plain.varTypes Tryz.prog) (ds ++ gs)).all (· ≤ reachBytes) = true := hsz0
 have hW' := hW
 obtain ⟨p, q, hA0, hV, rfl, hfz, hnd⟩ := hW
 have hA : DataW.TrodAll enc Tryz.prog W 0 (fun _ => true) true Tryz.f4.params.toList args.toList ds p := hA0
 rw [Tryz.params4] at hA hval hsz
 obtain ⟨v0, vs0, d0, ds0, p0, q0, hargs, rfl, rfl, h0, r0⟩ := trodAll_cons hA
 obtain ⟨v1, vs1, d1, ds1, p1, q1, rfl, rfl, rfl, h1, r1⟩ := trodAll_cons r0
 obtain ⟨rfl, rfl, rfl⟩ := trodAll_nil r1
 obtain rfl : args = #[v0, v1] := by cases args; simp_all
 obtain ⟨rfl, rfl⟩ := trodVars_none hV
 have hall := List.all_eq_true.1 hsz
 have hbulk : Rows.uptoBulk d0 ≤ 1048576 ∧ Rows.uptoBulk d1 ≤ 1048576 := by
  have hb := of_decide_eq_true hcond
  simp only [List.append_nil, Rows.uptoBulkAll] at hb
  constructor <;> omega
 have hw0 : ∀ n ∈ d0.weights Tryz.prog 24, n ≤ reachBytes := fun n hn => by
  have := hall n (List.mem_append.2 (.inl hn))
  exact of_decide_eq_true this
 have k0 := h0
 have lt0 : ∀ x ∈ p0, x.block < W.heap.size := by obtain ⟨m, hm⟩ := k0; exact DataW.trod_lt m _ _ _ hm
 have k1 := h1
 have lt1 : ∀ x ∈ p1, x.block < W.heap.size := by obtain ⟨m, hm⟩ := k1; exact DataW.trod_lt m _ _ _ hm
 obtain ⟨x0, o0, c0, rfl, hr0, hf0⟩ := open_pcm0 (hval 0 24 v0 rfl rfl) h0 hw0
 obtain ⟨f, l, ao, cap, rfl, hfs, hl, hp, hb⟩ := open_aiff (hval 1 27 v1 rfl rfl) h1 hbulk.2
 clear hA0 hval0
 refine (walk x0 o0 c0 hf0 f l ao cap hfs hb hp W hr0 hl).mono fun e W' ⟨he, bel⟩ => ?_
 subst he
 exact ⟨_, rfl, _, _, _, [], _, [], hW', trodAll_mk1 (shut_bool Tryz.underlying4 _), (trodAll_cons_mk (Below.trod laidOut (by kernel_rfl) (of_decide_eq_true (by kernel_rfl)) k0 bel lt0) (trodAll_cons_mk (Below.trod laidOut (by kernel_rfl) (of_decide_eq_true (by kernel_rfl)) k1 bel lt1) trodAll_mk0)), rfl, bel.frame _, fun h => by cases h⟩

theorem over : Rows.aiffBuildsUptoRow.holds Tryz.pinned (Rows.OpenSpec.upto Rows.aiffBuildsSpec) :=
 OpenClaim.holds_of_cond 4 Tryz.f4 rfl rfl rfl rfl rfl rfl rfl ⟨rfl, rfl, rfl, rfl, rfl⟩ rfl rfl rfl rfl rfl (by kernel_rfl) Tryz.func4 (by kernel_rfl)
  (of_decide_eq_true (by kernel_rfl)) (by unfold Func.isWrapper; first | (rw [if_pos (by decide +kernel)]; kernel_rfl) | (rw [if_neg (by decide +kernel)]; exact ⟨rfl, rfl⟩))
  (fun os started H enc _ F => lifted os started H enc F)

end Go.Proofs.YtaepgjheknkojaaGreat.aiffBuilds
namespace Go.Proofs.YtaepgjheknkojaaGreat
theorem aiffBuildsUpto_holds : Rows.AiffBuildsUptoSaid := aiffBuilds.over
#print axioms aiffBuildsUpto_holds
end Go.Proofs.YtaepgjheknkojaaGreat
