/-
  Own text: the law MetaBuilds, where what it reads is of the given bulk: any blocks as a text, or the error. Conditions: the package's table of widths starts as the program's text lays it (a tied card).
-/
import Derived.Test.YtfmpiidnemhijaaDoorQ13args
import Derived.Test.YtfmpiidnemhijaaDoorR13bld
import Derived.Test.YtfmpiidnemhijaaDoorCards
import Derived.Test.YtfmpiidnemhijaaDoorTie
import Derived.WalkKit
import Derived.ProofKit
import Derived.OpenShut
import Derived.ShutString
import Derived.ChangeOld
import Derived.Below
import Derived.SizedLaws
import Derived.Carry
import Derived.JoinedCond
import Derived.Laws.AppendOwnNone
import Derived.Deep.DeepHandedRow
namespace Go.Proofs.YtfmpiidnemhijaaDoor.metaBuilds
open Go.ChangeShapes Go.WideShapes Go.ChangeAt Go.RowKit
set_option linter.unusedSimpArgs false
set_option linter.unusedVariables false

theorem own : ownKnob Tryd.prog.godebug = none := by kernel_rfl
theorem laidOut : laidOutB Tryd.prog = true := by kernel_rfl
theorem bcells_one : ∀ (l : List Blk) (u : Value), u ∈ bcells l → u.oneCell' = true := by
  intro l u hu
  unfold bcells at hu
  obtain ⟨c, _, hc⟩ := List.mem_flatMap.1 hu
  simp at hc
  rcases hc with rfl | rfl <;> rfl
theorem bcells_at {w : World} {b off : Nat} {l : List Blk} (hc : ∀ i c, l[i]? = some c → w.cell? ⟨b, off + i * 2, none⟩ = some (.int .i64 c.ty) ∧ w.cell? ⟨b, off + i * 2 + 1, none⟩ = some (.string c.body)) :
    ∀ j u, (bcells l)[j]? = some u → w.cell? ((⟨b, off, none⟩ : Addr).add j) = some u := by
  intro j u hj
  have hjl := (List.getElem?_eq_some_iff.1 hj).1
  rw [bcells_length] at hjl
  have hil : j / 2 < l.length := by omega
  have hi : l[j / 2]? = some l[j / 2] := List.getElem?_eq_getElem hil
  obtain ⟨g0, g1⟩ := bcells_get l (j / 2) _ hi
  obtain ⟨q0, q1⟩ := hc (j / 2) _ hi
  rw [add_plain]
  have hm : j = j / 2 * 2 ∨ j = j / 2 * 2 + 1 := by omega
  rcases hm with e | e
  · have hj2 := hj
    rw [e, g0] at hj2
    rw [e, q0]
    exact hj2
  · have hj2 := hj
    rw [e, g1] at hj2
    rw [e, ← Nat.add_assoc, q1]
    exact hj2
theorem bulk_len : ∀ l : List Blk, 3 * l.length ≤ bulkL l
  | [] => Nat.zero_le _
  | c :: t => by
    have ih := bulk_len t
    have e2 : bulkL (c :: t) = (c.body.size + 3) + bulkL t := by unfold bulkL; simp
    rw [e2, List.length_cons]
    omega
theorem bulk_siz : ∀ l : List Blk, sizL l ≤ 2 * bulkL l
  | [] => Nat.zero_le _
  | c :: t => by
    have ih := bulk_siz t
    have e2 : bulkL (c :: t) = (c.body.size + 3) + bulkL t := by unfold bulkL; simp
    have e3 : sizL (c :: t) = (4 + c.body.size) + sizL t := by simp [sizL]
    rw [e2, e3]
    omega
set_option maxRecDepth 20000 in
set_option maxHeartbeats 3200000 in
theorem walk (l : List Blk) (lo : Option Addr) (lc : Nat) (hcap : lo = none → lc = 0) (hs : ∀ b ∈ l, b.body.size ≤ 140737488351232) (hbk : bulkL l ≤ 1048576) (w : World) (hl : BlksAt w lo l) (hT : WidAt w) :
    Calls Tryd.prog 6 #[.slice lo l.length lc] w fun e w' => e = .returned (.bool true) ∧ Below w.heap.size w w' := by
  have HW : Hid (WidAt w) := hT
  have HS : Hid (∀ b ∈ l, b.body.size ≤ 140737488351232) := hs
  have HZ : Hid (sizL l ≤ 4194304) := by
    have := bulk_siz l
    show _ ≤ _
    omega
  have hll : l.length ≤ 1048576 := by have := bulk_len l; omega
  have HL : Hid (BlksAt w lo l) := hl
  obtain ⟨iK, hK0, hK1, hK2, hK3⟩ := info_parts5 infoB2
  have HIK : Hid (Tryd.prog.info? 36 = some iK ∧ iK.zero = some (.agg zeroB) ∧ iK.size = 2 ∧ iK.bytes = 24) := ⟨hK0, hK1, hK2, hK3⟩
  have HB0 : Hid (Below w.heap.size w w) := Below.refl _ _
  clear hK0 hK1 hK2 hK3 hbk hl hT hs
  cases lo with
  | none =>
    have hc0 := hcap rfl
    subst hc0
    have hl0 : l.length = 0 := by
      apply Nat.eq_zero_of_not_pos
      intro h0
      obtain ⟨b, off, e, _⟩ := HL.out.lies h0
      cases e
    obtain rfl : l = [] := List.length_eq_zero_iff.1 hl0
    have HC2 : Hid (BlksAt w (none : Option Addr) []) := HL.out
    clear hcap hl0
    go_enter Tryd.func6, Tryd.ntmps6
    go_wp2_with (at_builtin; refine wpList_append_own_none rfl (.const (.slice none 0 0)) (.tmp 8) 40 rfl w.heap.size 36 iK 2 Tryd.underlying40 HIK.out.1 (.slice none 0 0) 0 [] rfl (World.ownsRow_nil _ _ _ _) rfl ?_)
    clear HIK
    have kb := build_any [] none 0 w HC2.out HS.out (by omega) (HW.out.below HB0.out)
    have HX : Hid (∀ wx, Below w.heap.size w wx → Calls Tryd.prog 19 #[.slice none ([] : List Blk).length 0] wx fun e w' => BldE [] e ∧ Below wx.heap.size wx w') := fun wx hb => xbuild_any [] none 0 wx (HL.out.below (HB0.out.trans (hb.mono HB0.out.size))) hll HZ.out HS.out
    clear HC2
    go_wp2_with fail
    refine kb.mono ?_
    rintro e w7 ⟨hp, hb7⟩
    have HB7 : Hid (Below w.heap.size w w7) := HB0.out.trans (hb7.mono HB0.out.size)
    obtain ⟨X, C, he, hXC⟩ : ∃ (X : ByteArray) (C : Int), e = .returned (.tuple #[.string X, .int .i64 C]) ∧ ∀ e', BldE [] e' → e' = .returned (.tuple #[.string X, .int .i64 C]) := by
      rcases hp with ⟨h, he⟩ | ⟨h, he⟩
      · exact ⟨_, _, he, fun e' h' => by rcases h' with ⟨_, q⟩ | ⟨q, _⟩; exact q; rw [h] at q; cases q⟩
      · exact ⟨_, _, he, fun e' h' => by rcases h' with ⟨q, _⟩ | ⟨_, q⟩; rw [h] at q; cases q; exact q⟩
    subst he
    have kx := (HX.out w7 hb7).mono fun e w' h => (show e = .returned (.tuple #[.string X, .int .i64 C]) ∧ Below w7.heap.size w7 w' from ⟨hXC e h.1, h.2⟩)
    have bC : (C == C) = true := by simp
    have bX : (X.toList == X.toList) = true := by simp
    clear hp hXC hb7 HX kb HB0 HS HZ HL
    go_wp2_with fail
    refine kx.mono ?_
    rintro e w8 ⟨rfl, hb8⟩
    have HB8 : Hid (Below w.heap.size w w8) := HB7.out.trans (hb8.mono HB7.out.size)
    have ka := awake_any w8 (HW.out.below HB8.out)
    clear hb8 kx HB7
    go_wp2_with fail
    refine ka.mono ?_
    rintro e w9 ⟨rfl, hb9⟩
    have HB9 : Hid (Below w.heap.size w w9) := HB8.out.trans (hb9.mono HB8.out.size)
    clear ka hb9 HB8
    go_wp2_with fail
    go_ret
    exact ⟨rfl, HB9.out⟩
  | some ad =>
    clear hcap
    have HN : Hid (∃ news : List Value, news = bcells l ∧ ∀ j u, news[j]? = some u → w.cell? (ad.add j) = some u) := by
      refine ⟨_, rfl, ?_⟩
      by_cases h0 : 0 < l.length
      · obtain ⟨b, off, e, hc⟩ := HL.out.lies h0
        cases e
        exact bcells_at hc
      · intro j u hj
        have := (List.getElem?_eq_some_iff.1 hj).1
        rw [bcells_length] at this
        omega
    obtain ⟨news, hne, hnw⟩ := HN.out
    have HNE : Hid (news = bcells l) := hne
    have HNW : Hid (∀ j u, news[j]? = some u → w.cell? (ad.add j) = some u) := hnw
    have HNL : Hid (news.length = l.length * 2) := by rw [hne]; exact bcells_length l
    have HN1 : Hid (∀ u ∈ news, u.oneCell' = true) := by rw [hne]; exact bcells_one l
    clear hne hnw HN
    go_enter Tryd.func6, Tryd.ntmps6
    go_wp2_with (at_builtin; go_loud (refine wpList_append_row _ rfl (.const (.slice none 0 0)) (.tmp 8) 40 rfl w.heap.size 36 iK (.agg zeroB) 2 24 Tryd.underlying40 HIK.out.1 HIK.out.2.1 HIK.out.2.2.1 HIK.out.2.2.2 rfl (by decide) (.slice none 0 0) 0 [] rfl (World.ownsRow_nil _ _ _ _) ad l.length lc news rfl HNL.out HNW.out HN1.out (by simp only [maxLen]; omega) (by omega) (Nat.le_refl _) ?_); intro v6 w6 ho6 hg6 _)
    have h6 : w6.ownsRow w.heap.size 36 2 v6 l.length (bcells l) := by
      have h := ho6.out
      rw [Nat.zero_add, List.nil_append, HNE.out] at h
      exact h
    have h26 : Below w.heap.size w w6 := grown_to hg6.out (Below.refl _ _) (Nat.le_refl _) (fun k e => by cases e)
    obtain ⟨a6, c6, e6, hat, _⟩ := BlksAt.own h6
    subst e6
    have HC6 : Hid (BlksAt w6 a6 l) := hat
    have HB6 : Hid (Below w.heap.size w w6) := h26
    clear ho6 hg6 h6 h26 hat HNE HNW HNL HN1 HIK
    have kb := build_any l a6 c6 w6 HC6.out HS.out (by omega) (HW.out.below HB6.out)
    have HX : Hid (∀ wx, Below w6.heap.size w6 wx → Calls Tryd.prog 19 #[.slice (some ad) l.length lc] wx fun e w' => BldE l e ∧ Below wx.heap.size wx w') := fun wx hb => xbuild_any l (some ad) lc wx (HL.out.below (HB6.out.trans (hb.mono HB6.out.size))) hll HZ.out HS.out
    clear HC6
    go_wp2_with fail
    refine kb.mono ?_
    rintro e w7 ⟨hp, hb7⟩
    have HB7 : Hid (Below w.heap.size w w7) := HB6.out.trans (hb7.mono HB6.out.size)
    obtain ⟨X, C, he, hXC⟩ : ∃ (X : ByteArray) (C : Int), e = .returned (.tuple #[.string X, .int .i64 C]) ∧ ∀ e', BldE l e' → e' = .returned (.tuple #[.string X, .int .i64 C]) := by
      rcases hp with ⟨h, he⟩ | ⟨h, he⟩
      · exact ⟨_, _, he, fun e' h' => by rcases h' with ⟨_, q⟩ | ⟨q, _⟩; exact q; rw [h] at q; cases q⟩
      · exact ⟨_, _, he, fun e' h' => by rcases h' with ⟨q, _⟩ | ⟨_, q⟩; rw [h] at q; cases q; exact q⟩
    subst he
    have kx := (HX.out w7 hb7).mono fun e w' h => (show e = .returned (.tuple #[.string X, .int .i64 C]) ∧ Below w7.heap.size w7 w' from ⟨hXC e h.1, h.2⟩)
    have bC : (C == C) = true := by simp
    have bX : (X.toList == X.toList) = true := by simp
    clear hp hXC hb7 HX kb HB6 HS HZ HL
    go_wp2_with fail
    refine kx.mono ?_
    rintro e w8 ⟨rfl, hb8⟩
    have HB8 : Hid (Below w.heap.size w w8) := HB7.out.trans (hb8.mono HB7.out.size)
    have ka := awake_any w8 (HW.out.below HB8.out)
    clear hb8 kx HB7
    go_wp2_with fail
    refine ka.mono ?_
    rintro e w9 ⟨rfl, hb9⟩
    have HB9 : Hid (Below w.heap.size w w9) := HB8.out.trans (hb9.mono HB8.out.size)
    clear ka hb9 HB8
    go_wp2_with fail
    go_ret
    exact ⟨rfl, HB9.out⟩

theorem wid_u {W : World} (h : laidMetH Tryd.prog Rows.metaBuildsUptoRow.laid W) : WidAt W := wid_of_laid h
theorem door_met (os : Os) (args : Array Value) : laidMetH Tryd.prog Rows.metaBuildsUptoRow.laid ((World.doorLaid Tryd.prog 400 os).forCall (fun _ _ => 0) ⟨#[], args, []⟩).memory :=
  laidMetH_of_parts3 (fuel := 8) (laidMet_of_run' 8 (by kernel_rfl) (by kernel_rfl)) (by kernel_rfl) (by kernel_rfl)
theorem reads (os : Os) {H : Type} (enc : TypeId × Value → H) : ∃ places, DataW.whole enc Tryd.prog ((World.doorLaid Tryd.prog 400 os).forCall (fun _ _ => 0) ⟨#[], #[.slice none 0 0], []⟩).memory Tryd.f6.params.toList Rows.metaBuildsSpec.vars false [.slice none 0 0] 8 = some ([.nil], [], places) :=
  ⟨[], by kernel_rfl⟩

set_option maxRecDepth 100000 in
theorem lifted (os : Os) (started : os.Started) (H : Type) (enc : TypeId × Value → H) (F : Stop.Interp) :
    ReturnsInHanded {} Tryd.checked os 6 .any ((Rows.OpenSpec.upto Rows.metaBuildsSpec).preRow enc Tryd.prog Tryd.f6 Rows.metaBuildsUptoRow.domain false Rows.metaBuildsUptoRow.laid) (((Rows.OpenSpec.upto Rows.metaBuildsSpec).at F).post enc Tryd.prog Tryd.f6 false true false false) := by
  obtain ⟨places, hx⟩ := reads os enc
  refine returnsInHanded_of_row (C := Tryd.checked) (s := Rows.OpenSpec.upto Rows.metaBuildsSpec) own started (by kernel_rfl) Tryd.func6
    (witness_row_at (enc := enc) (C := Tryd.checked) false (World.doorLaid Tryd.prog 400 os) #[.slice none 0 0] rfl (by kernel_rfl) (by kernel_rfl) (by kernel_rfl)
      (OpenSpec.preRow_of_cond 8 hx (by kernel_rfl) (fun k hk => by cases hk; kernel_rfl) (by kernel_rfl) (door_met os _))) ?_
  intro W base args ds gs before hval0 hW _ hcond0 hsz0 hL _ _
  have hval : ∀ (j : Nat) t v, Tryd.f6.params[j]? = some t → args[j]? = some v → Value.okWide Tryd.prog W .any base t v := hval0
  have hcond : Rows.uptoSmall H (ds ++ gs) = true := hcond0 _ rfl
  have hsz : (DataW.weightsEach Tryd.prog (Tryd.f6.params.toList ++ Rows.metaBuildsSpec.plain.varTypes Tryd.prog) (ds ++ gs)).all (· ≤ reachBytes) = true := hsz0
  have hW' := hW
  obtain ⟨p, q, hA0, hV, rfl, hfz, hnd⟩ := hW
  have hA : DataW.TrodAll enc Tryd.prog W 0 (fun _ => true) true Tryd.f6.params.toList args.toList ds p := hA0
  rw [Tryd.params6] at hA hval hsz
  obtain ⟨v0, vs0, d0, ds0, p0, q0, hargs, rfl, rfl, h0, r0⟩ := trodAll_cons hA
  obtain ⟨rfl, rfl, rfl⟩ := trodAll_nil r0
  obtain rfl : args = #[v0] := by cases args; simp_all
  obtain ⟨rfl, rfl⟩ := trodVars_none hV
  have hall := List.all_eq_true.1 hsz
  have hbulk : Rows.uptoBulk d0 ≤ 1048576 := by
    have hb := of_decide_eq_true hcond
    simp only [List.append_nil, Rows.uptoBulkAll] at hb
    omega
  have hw0 : ∀ n ∈ d0.weights Tryd.prog 40, n ≤ reachBytes := fun n hn => by
    have := hall n (List.mem_append.2 (.inl hn))
    exact of_decide_eq_true this
  have k0 := h0
  have lt0 : ∀ x ∈ p0, x.block < W.heap.size := by obtain ⟨m, hm⟩ := k0; exact DataW.trod_lt m _ _ _ hm
  obtain ⟨o0, n0, c0, rfl⟩ := okWide_slice Tryd.underlying40 (hval 0 40 v0 rfl rfl)
  obtain ⟨x0, hl0, hr0, hz0, hs0, hn0, hc0, hb0⟩ := open_blocks h0 hw0
  subst hl0
  clear hA0 hval0
  refine (walk x0 o0 c0 hz0 hs0 (hb0 hbulk) W hr0 (wid_u hL)).mono fun e W' ⟨he, bel⟩ => ?_
  subst he
  exact ⟨_, rfl, _, _, _, [], _, [], hW', trodAll_mk1 (shut_bool Tryd.underlying4 _), (trodAll_cons_mk (Below.trod laidOut (by kernel_rfl) (of_decide_eq_true (by kernel_rfl)) k0 bel lt0) trodAll_mk0), rfl, bel.frame _, fun h => by cases h⟩

theorem said : Rows.MetaBuildsUptoSaid :=
  OpenClaim.holds_of_cond 6 Tryd.f6 rfl rfl rfl rfl rfl rfl rfl ⟨rfl, rfl, rfl, rfl, rfl⟩ rfl rfl rfl rfl rfl (by kernel_rfl) Tryd.func6 (by kernel_rfl)
    (of_decide_eq_true (by kernel_rfl)) (by unfold Func.isWrapper; first | (rw [if_pos (by decide +kernel)]; kernel_rfl) | (rw [if_neg (by decide +kernel)]; exact ⟨rfl, rfl⟩))
    (fun os started H enc _ F => by rw [OpenClaim.pre_eq_preRow]; exact lifted os started H enc F)

/-- No parameter wants a stand-in; the program's own looks are off. -/
theorem plain (f : FuncId) (fn : Func) (hf : Tryd.pinned.checked.prog.funcNamed Rows.metaBuildsUptoRow.func = some f) (hfn : Tryd.pinned.checked.prog.funcs[f]? = some fn) :
    false = Tryd.pinned.checked.prog.looks [] ∧ ∀ (j : Nat) t, fn.params[j]? = some t → Tryd.pinned.checked.prog.wantsStandIn t = false := by
  obtain rfl : f = 6 := Option.some.inj ((show Tryd.prog.funcNamed Rows.metaBuildsUptoRow.func = some 6 by kernel_rfl).symm.trans hf) |>.symm
  obtain rfl : fn = Tryd.f6 := (Option.some.inj (Tryd.func6.symm.trans hfn)).symm
  refine ⟨by kernel_rfl, fun j t ht => ?_⟩
  rw [Tryd.params6] at ht
  have hm := Array.mem_of_getElem? ht
  simp at hm
  subst hm
  exact (show Tryd.prog.wantsStandIn 40 = false by kernel_rfl)

theorem card : Rows.MetaBuildsUptoCardSaid :=
  Claim7.holds_tied_plain_at .later [] _ _ _ _ said (fun _ h => by cases h) (by kernel_rfl) (fun _ h => by cases h) metaBuildsUpto_row_tie rfl ⟨rfl, rfl⟩ (by kernel_rfl) rfl plain (by kernel_rfl)

end Go.Proofs.YtfmpiidnemhijaaDoor.metaBuilds
namespace Go.Proofs.YtfmpiidnemhijaaDoor
theorem metaBuildsUpto_card : Rows.MetaBuildsUptoCardSaid := metaBuilds.card
#print axioms metaBuildsUpto_card
end Go.Proofs.YtfmpiidnemhijaaDoor
