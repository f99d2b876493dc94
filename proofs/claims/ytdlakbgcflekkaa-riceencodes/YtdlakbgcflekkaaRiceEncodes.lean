/-
  RiceEncodes: Encode writes behind what was written just what the document lays down, and answers as it does; Check likewise; a Writer that is none is answered ErrArg. Whatever the recipe, the block and the residuals. No condition.
-/
import Derived.Test.YtdlakbgcflekkaaP8args
import Derived.WalkKit
import Derived.ProofKit
import Derived.OpenShut
import Derived.ShutString
import Derived.ChangeOld
import Derived.Below
import Derived.SizedLaws

namespace Go.Proofs.Ytdlakbgcflekkaa.riceEncodes
open Go.ChangeShapes Go.WideShapes Go.ChangeAt Go.RowKit
open Go.ChangeMaps (open_string shut_string)
set_option linter.unusedSimpArgs false
set_option linter.unusedVariables false

theorem own : ownKnob Try.prog.godebug = none := by kernel_rfl
theorem laidOut : laidOutB Try.prog = true := by kernel_rfl

set_option maxRecDepth 20000 in
set_option maxHeartbeats 3200000 in
theorem walk (r : Rc) (rpa : Option Addr) (rpc : Nat) (rea : Option Addr) (rec : Nat) (na nb : Int) (na1 : -9223372036854775808 ≤ na) (na2 : na ≤ 9223372036854775807) (nb1 : -9223372036854775808 ≤ nb) (nb2 : nb ≤ 9223372036854775807) (l : List Int) (lo : Option Addr) (lc : Nat) (hlc : l.length ≤ lc) (hl0 : lo = none → lc = 0) (w : World) (rr : RcAt w r rpa rea) (rl : IntsAt w lo l) :
    Calls Try.prog 3 #[riceV r rpa rpc rea rec, .agg #[.int .i64 na, .int .i64 nb], .slice lo l.length lc] w fun e w' => e = .returned (.bool true) ∧ Below w.heap.size w w' := by

  have KSh : Hid (∀ wx, Below w.heap.size w wx → Calls Try.prog 8 #[.slice lo l.length lc] wx fun e w' => e = .returned (.bool (shB l)) ∧ w' = wx) := fun wx hb => short_spec l lo lc wx (rl.below hb)
  have KAw : Hid (∀ wx, Calls Try.prog 9 #[] wx fun e w' => e = .returned (.bool true) ∧ Below wx.heap.size wx w') := fun wx => awake_spec wx
  have HBX : Hid (((w.alloc (.cells (riceC r rpa rpc rea rec) 24)).alloc (.cells #[.int .i64 na, .int .i64 nb] 25)).heap[w.heap.size]? = some (.cells (riceC r rpa rpc rea rec) 24 (0, 0))) := heap_two _ _ _
  have HTW : Hid (((w.alloc (.cells (riceC r rpa rpc rea rec) 24)).alloc (.cells #[.int .i64 na, .int .i64 nb] 25)).heap[w.heap.size + 1]? = some (.cells #[.int .i64 na, .int .i64 nb] 25 (0, 0))) := by
    have hh := heap_alloc_new (w.alloc (.cells (riceC r rpa rpc rea rec) 24)) (.cells #[.int .i64 na, .int .i64 nb] 25)
    rw [show (w.alloc (.cells (riceC r rpa rpc rea rec) 24)).heap.size = w.heap.size + 1 from by simp] at hh
    exact hh
  have HBL : Hid (Below w.heap.size w ((w.alloc (.cells (riceC r rpa rpc rea rec) 24)).alloc (.cells #[.int .i64 na, .int .i64 nb] 25))) := ((Below.refl _ _).alloc (Nat.le_refl _) _).alloc (by simp) _
  have HRc : Hid (RcAt w r rpa rea) := rr
  have HLi : Hid (IntsAt w lo l) := rl
  clear rr rl
  by_cases hsh : ShX l
  case neg =>
    rw [shB_no hsh] at KSh
    clear hsh
    go_enter Try.func3, Try.ntmps3
    go_wp2_with fail
    generalize hwa : World.alloc (World.alloc _ _) _ = wa at *
    clear hwa
    refine (KSh.out wa HBL.out).mono ?_
    rintro e wa' ⟨rfl, rfl⟩
    go_wp2_with fail
    refine (KAw.out wa').mono ?_
    rintro e w2 ⟨rfl, hb2⟩
    have HB2 : Hid (Below w.heap.size w w2) := HBL.out.trans (hb2.mono HBL.out.size)
    clear hb2
    go_wp2_with fail
    go_ret
    exact ⟨rfl, HB2.out⟩
  case pos =>
    rw [shB_yes hsh] at KSh
    have HSX : Hid (ShX l) := hsh
    have h5 := hsh.2
    clear hsh
    go_enter Try.func3, Try.ntmps3
    go_wp2_with fail
    generalize hwa : World.alloc (World.alloc _ _) _ = wa at *
    clear hwa
    refine (KSh.out wa HBL.out).mono ?_
    rintro e wa' ⟨rfl, rfl⟩
    have hza : w.heap.size + 1 < wa'.heap.size := lt_of_block HTW.out

    have kn := new_spec wa'
    clear KSh
    go_wp2_with fail
    refine kn.mono ?_
    rintro e w3 ⟨rfl, hw3, hq3⟩
    have hb3 : Below wa'.heap.size wa' w3 := by rw [hq3]; exact (Below.refl _ _).alloc (Nat.le_refl _) _
    have hz3 : w3.heap.size = wa'.heap.size + 1 := by rw [hq3]; simp
    have hb4 : Below w3.heap.size w3 (w3.alloc (.cells #[.slice none 0 0] 33)) := (Below.refl _ _).alloc (Nat.le_refl _) _
    have hX4 : XwB (w3.alloc (.cells #[.slice none 0 0] 33)) w3.heap.size none [] := by
      refine ⟨0, ⟨?_, World.ownsRow_nil _ _ _ _, by simp [blockOf]⟩⟩
      rw [heap_alloc_new]
      rfl
    have HP4 : Hid (Pair wa'.heap.size wa' (w3.alloc (.cells #[.slice none 0 0] 33)) wa'.heap.size w3.heap.size none none [] []) :=
      ⟨hw3.below hb4, hX4, Nat.le_refl _, by omega, by omega, by simp [blockOf], by simp [blockOf], fun b hb => (by cases hb), fun b hb => (by cases hb), fun b hb => (by cases hb), hb3.trans (hb4.mono (by omega))⟩
    clear kn hw3 hq3 hb3 hz3 hb4 hX4
    go_wp2_with fail
    generalize hw4 : World.alloc _ _ = w4 at *
    generalize hpp : wa'.heap.size = p at *
    generalize hxx : w3.heap.size = x at *
    clear hw4 hxx
    have kp := wput_all w4 none [] p 1 1 (by omega) (by omega) Bits01.nil (by decide) HP4.out.wr
    refine kp.mono ?_
    rintro e w5 ⟨rfl, ao5, g1, g2, g3⟩
    rw [List.nil_append] at g1
    have HP5 : Hid (Pair p wa' w5 p x ao5 none (putB 1 1) []) := HP4.out.left g1 g2 g3
    clear kp g1 g2 g3 HP4
    have kp := xput_all w5 none [] x 1 1 (by omega) (by omega) (by decide) HP5.out.xw
    go_wp2_with fail
    refine kp.mono ?_
    rintro e w6 ⟨rfl, bo6, g1, g2, g3⟩
    rw [List.nil_append] at g1
    have HP6 : Hid (Pair p wa' w6.drew p x ao5 bo6 (putB 1 1) (putB 1 1)) := (HP5.out.right g1 g2 g3).later ⟨rfl, rfl, rfl, Nat.le_refl _, fun _ _ => rfl⟩
    clear kp g1 g2 g3 HP5
    have h01 := putB_01 1 1
    have hl1 := putB_short 1 1 (by omega)
    generalize putB 1 1 = B1 at *
    have HSC : Hid (∀ wx ao bo B1 B2, Hid (Pair p wa' wx p x ao bo B1 B2) → wx.cell? ⟨w.heap.size, 0, none⟩ = some (.int .i64 r.m) ∧ wx.cell? ⟨w.heap.size, 1, none⟩ = some (.int .i64 r.o) ∧ wx.cell? ⟨w.heap.size, 2, none⟩ = some (.slice rpa r.P.length rpc) ∧ wx.cell? ⟨w.heap.size, 3, none⟩ = some (.slice rea r.E.length rec) ∧ wx.cell? ⟨w.heap.size + 1, 0, none⟩ = some (.int .i64 na) ∧ wx.cell? ⟨w.heap.size + 1, 1, none⟩ = some (.int .i64 nb)) := fun wx ao bo B1 B2 hh => by
      have hX : wx.heap[w.heap.size]? = some (.cells (riceC r rpa rpc rea rec) 24 (0, 0)) := by rw [hh.out.below.block _ (by omega)]; exact HBX.out
      have hT : wx.heap[w.heap.size + 1]? = some (.cells #[.int .i64 na, .int .i64 nb] 25 (0, 0)) := by rw [hh.out.below.block _ (by omega)]; exact HTW.out
      obtain ⟨y0, y1, y2, y3⟩ := RB.of_box hX
      exact ⟨y0, y1, y2, y3, by rw [cell_of_row _ _ _ _ _ _ hT]; rfl, by rw [cell_of_row _ _ _ _ _ _ hT]; rfl⟩
    have HLOW : Hid (∀ wx ao bo B1 B2, Hid (Pair p wa' wx p x ao bo B1 B2) → Below w.heap.size w wx) := fun wx ao bo B1 B2 hh => HBL.out.trans (hh.out.below.mono (by omega))
    have hap : ∀ (wx : World) (ao bo : Option Addr) (B1 B2 : List Nat), Hid (Pair p wa' wx p x ao bo B1 B2) → ∀ (xo : Option Addr) (L : List Int), IntsAt w xo L → Apart p ao xo L := fun wx ao bo B1 B2 hh xo L hx h0 b hb hf => by
      obtain ⟨bb, off, rfl, hc⟩ := hx.lies h0
      have e : bb = b := by simpa [blockOf] using hb
      have h2 : bb < w.heap.size := lt_cell (hc 0 h0)
      rcases hf with hf | hf
      · omega
      · have := hh.out.aoN b hf; omega
    have KE : Hid (∀ wx ao bo B2, Hid (Pair p wa' wx p x ao bo B1 B2) → Calls Try.prog 13 #[.pointer (some ⟨p, 0, none⟩), riceV r rpa rpc rea rec, .int .i64 na, .int .i64 nb, .slice lo l.length lc] wx fun en w' => en = .returned (.int .i64 (encN r na nb l)) ∧ ∃ ao', Hid (Pair p wa' w' p x ao' bo (B1 ++ encL r na nb l) B2)) := fun wx ao bo B2 hh => (encode_all r l HSX.out rpa rpc rea rec lo lc hlc hl0 p ao B1 h01 (by omega) wx (HRc.out.below (HLOW.out _ _ _ _ _ hh)) (HLi.out.below (HLOW.out _ _ _ _ _ hh)) hh.out.wr (hap _ _ _ _ _ hh _ _ HRc.out.P) (hap _ _ _ _ _ hh _ _ HRc.out.E) (hap _ _ _ _ _ hh _ _ HLi.out) na nb).mono fun e w' hx => by
      obtain ⟨h1, ao', h2, h3, h4⟩ := hx
      exact ⟨h1, ao', hh.out.left h2 h3 h4⟩
    have KX : Hid (∀ wx ao bo B, Hid (Pair p wa' wx p x ao bo B B1) → Calls Try.prog 14 #[.pointer (some ⟨x, 0, none⟩), riceV r rpa rpc rea rec, .int .i64 na, .int .i64 nb, .slice lo l.length lc] wx fun en w' => en = .returned (.int .i64 (encN r na nb l)) ∧ ∃ bo', Hid (Pair p wa' w' p x ao bo' B (B1 ++ encL r na nb l))) := fun wx ao bo B hh => (xenc_all r l HSX.out rpa rpc rea rec lo lc x wx (HRc.out.below (HLOW.out _ _ _ _ _ hh)) (HLi.out.below (HLOW.out _ _ _ _ _ hh)) bo B1 (by omega) hh.out.xw na nb).mono fun e w' hx => by
      obtain ⟨h1, ao', h2, h3, h4⟩ := hx
      exact ⟨h1, ao', hh.out.right h2 h3 h4⟩
    have h01' : Bits01 (B1 ++ encL r na nb l) := h01.append (encL_01 r na nb l)
    have hl1' : (B1 ++ encL r na nb l).length ≤ 200000000000 := by
      have := encL_room r na nb l h5
      rw [List.length_append]; omega
    clear hap
    generalize hBB : B1 ++ encL r na nb l = BB at *
    generalize heN : encN r na nb l = eN at *
    clear hBB heN
    go_wp2_with fail
    go_region_held3 (fun wx => wx.cell? ⟨w.heap.size, 0, none⟩ = some (.int .i64 r.m) ∧ wx.cell? ⟨w.heap.size, 1, none⟩ = some (.int .i64 r.o) ∧ wx.cell? ⟨w.heap.size, 2, none⟩ = some (.slice rpa r.P.length rpc) ∧ wx.cell? ⟨w.heap.size, 3, none⟩ = some (.slice rea r.E.length rec) ∧ wx.cell? ⟨w.heap.size + 1, 0, none⟩ = some (.int .i64 na) ∧ wx.cell? ⟨w.heap.size + 1, 1, none⟩ = some (.int .i64 nb)) (exact HSC.out _ _ _ _ _ (by assumption))
      (first
        | (go_at_call 13; refine (KE.out _ _ _ _ (by assumption)).mono ?_; rintro e w7 ⟨rfl, ao7, h7⟩)
        | (go_at_call 14; refine (KX.out _ _ _ _ (by assumption)).mono ?_; rintro e w8 ⟨rfl, bo8, h8⟩))
    obtain ⟨capx, hX8⟩ := h8.out.xw
    have x0 := hX8.c0
    have hxl := hX8.lt
    have HPD : Hid (∀ wx, Hid (Below w8.heap.size w8 wx) → Hid (Pair p wa' wx p x ao7 bo8 BB BB)) := fun wx hh => h8.out.later hh.out
    have HSY : Hid (∀ wx, Hid (Below w8.heap.size w8 wx) → wx.cell? ⟨x, 0, none⟩ = some (.slice bo8 BB.length capx) ∧ wx.cell? ⟨w.heap.size, 0, none⟩ = some (.int .i64 r.m) ∧ wx.cell? ⟨w.heap.size, 1, none⟩ = some (.int .i64 r.o) ∧ wx.cell? ⟨w.heap.size, 2, none⟩ = some (.slice rpa r.P.length rpc) ∧ wx.cell? ⟨w.heap.size, 3, none⟩ = some (.slice rea r.E.length rec) ∧ wx.cell? ⟨w.heap.size + 1, 0, none⟩ = some (.int .i64 na) ∧ wx.cell? ⟨w.heap.size + 1, 1, none⟩ = some (.int .i64 nb)) := fun wx hh => ⟨(hh.out.cell (p := ⟨x, 0, none⟩) hxl).trans x0, HSC.out _ _ _ _ _ (HPD.out _ hh)⟩
    have KL : Hid (∀ wx, Hid (Below w8.heap.size w8 wx) → Calls Try.prog 15 #[.pointer (some ⟨p, 0, none⟩)] wx fun e w' => e = .returned (.int .i64 (BB.length : Int)) ∧ Hid (Below w8.heap.size w8 w')) := fun wx hh => (len_spec p wx ao7 BB (HPD.out _ hh).out.wr).mono fun e w' hx => ⟨hx.1, by rw [hx.2]; exact hh⟩
    have KB : Hid (∀ wx, Hid (Below w8.heap.size w8 wx) → Calls Try.prog 16 #[.pointer (some ⟨p, 0, none⟩)] wx fun e w' => e = .returned (.string (textOf (pack BB))) ∧ Hid (Below w8.heap.size w8 w')) := fun wx hh => (bytes_spec p wx ao7 BB h01' (by omega) (HPD.out _ hh).out.wr).mono fun e w' hx => ⟨hx.1, by rw [hx.2]; exact hh⟩
    have KY : Hid (∀ wx, Hid (Below w8.heap.size w8 wx) → Calls Try.prog 17 #[.pointer (some ⟨x, 0, none⟩)] wx fun e w' => e = .returned (.string (textOf (pack BB))) ∧ Hid (Below w8.heap.size w8 w')) := fun wx hh => (xbytes_spec x wx bo8 BB h01' (by omega) (HPD.out _ hh).out.xw).mono fun e w' hx => ⟨hx.1, hh.out.trans (hx.2.mono hh.out.size)⟩
    have KC : Hid (∀ wx, Hid (Below w8.heap.size w8 wx) → Calls Try.prog 18 #[riceV r rpa rpc rea rec, .int .i64 na, .int .i64 nb] wx fun e w' => e = .returned (.int .i64 (chkN r na nb)) ∧ Hid (Below w8.heap.size w8 w')) := fun wx hh => (check_spec r na nb rpa rpc rea rec wx (HRc.out.below (HLOW.out _ _ _ _ _ (HPD.out _ hh)))).mono fun e w' hx => ⟨hx.1, hh.out.trans (hx.2.mono hh.out.size)⟩
    have KD : Hid (∀ wx, Hid (Below w8.heap.size w8 wx) → Calls Try.prog 19 #[riceV r rpa rpc rea rec, .int .i64 na, .int .i64 nb] wx fun e w' => e = .returned (.int .i64 (chkN r na nb)) ∧ Hid (Below w8.heap.size w8 w')) := fun wx hh => (xcheck_spec r na nb rpa rpc rea rec wx (HRc.out.below (HLOW.out _ _ _ _ _ (HPD.out _ hh)))).mono fun e w' hx => ⟨hx.1, hh.out.trans (hx.2.mono hh.out.size)⟩
    have KN : Hid (∀ wx, Hid (Below w8.heap.size w8 wx) → Calls Try.prog 13 #[.pointer none, riceV r rpa rpc rea rec, .int .i64 na, .int .i64 nb, .slice lo l.length lc] wx fun e w' => e = .returned (.int .i64 1) ∧ Hid (Below w8.heap.size w8 w')) := fun wx hh => (encode_nil (.slice lo l.length lc) r na nb rpa rpc rea rec wx).mono fun e w' hx => ⟨hx.1, hh.out.trans (hx.2.mono hh.out.size)⟩
    have KA : Hid (∀ wx, Hid (Below w8.heap.size w8 wx) → Calls Try.prog 9 #[] wx fun e w' => e = .returned (.bool true) ∧ Hid (Below w8.heap.size w8 w')) := fun wx hh => (KAw.out wx).mono fun e w' hx => ⟨hx.1, hh.out.trans (hx.2.mono hh.out.size)⟩
    have HEN : Hid (∀ wx, Hid (Below w8.heap.size w8 wx) → Below w.heap.size w wx) := fun wx hh => HLOW.out _ _ _ _ _ (HPD.out _ hh)
    have HG : Hid (Below w8.heap.size w8 w8.drew) := ⟨rfl, rfl, rfl, Nat.le_refl _, fun _ _ => rfl⟩
    generalize chkN r na nb = cN at *
    generalize textOf (pack BB) = TT at *
    generalize BB.length = LL at *
    clear KE KX KAw HSC HLOW HPD h7 h8 HP6 hX8
    go_wp2_with fail
    go_region_held3 (fun wx => wx.cell? ⟨x, 0, none⟩ = some (.slice bo8 LL capx) ∧ wx.cell? ⟨w.heap.size, 0, none⟩ = some (.int .i64 r.m) ∧ wx.cell? ⟨w.heap.size, 1, none⟩ = some (.int .i64 r.o) ∧ wx.cell? ⟨w.heap.size, 2, none⟩ = some (.slice rpa r.P.length rpc) ∧ wx.cell? ⟨w.heap.size, 3, none⟩ = some (.slice rea r.E.length rec) ∧ wx.cell? ⟨w.heap.size + 1, 0, none⟩ = some (.int .i64 na) ∧ wx.cell? ⟨w.heap.size + 1, 1, none⟩ = some (.int .i64 nb)) (exact HSY.out _ (by assumption))
      (first
        | (go_at_call 15; refine (KL.out _ (by assumption)).mono ?_; rintro e w9 ⟨rfl, h9⟩)
        | (go_at_call 16; refine (KB.out _ (by assumption)).mono ?_; rintro e w10 ⟨rfl, h10⟩)
        | (go_at_call 17; refine (KY.out _ (by assumption)).mono ?_; rintro e w11 ⟨rfl, h11⟩)
        | (go_at_call 18; refine (KC.out _ (by assumption)).mono ?_; rintro e w12 ⟨rfl, h12⟩)
        | (go_at_call 19; refine (KD.out _ (by assumption)).mono ?_; rintro e w13 ⟨rfl, h13⟩)
        | (go_at_call 13; refine (KN.out _ (by assumption)).mono ?_; rintro e w14 ⟨rfl, h14⟩)
        | (go_at_call 9; refine (KA.out _ (by assumption)).mono ?_; rintro e w15 ⟨rfl, h15⟩))
    go_wp2_with fail
    go_ret
    exact ⟨rfl, HEN.out _ h15⟩


set_option maxRecDepth 100000 in
theorem lifted (os : Os) (started : os.Started) (H : Type) (enc : TypeId × Value → H) :
    ReturnsInHanded {} Try.checked os 3 .any (Rows.riceEncodesSpec.pre6 enc Try.prog Try.f3 Rows.riceEncodesRow.domain false) (Rows.riceEncodesSpec.post enc Try.prog Try.f3 false true false false) := by
  refine returnsInHanded_of_change_sized (C := Try.checked) own started (by kernel_rfl) Try.func3
    (ChangeSpec.witness6 (enc := enc) (C := Try.checked) false ⟨#[], #[.agg #[.int .i64 0, .int .i64 0, .slice none 0 0, .slice none 0 0], .agg #[.int .i64 0, .int .i64 0], .slice none 0 0], []⟩ 8 (by kernel_rfl) (by kernel_rfl) (by kernel_rfl) (by kernel_rfl)) ?_
  intro W base args ds gs before hval0 hW hcnd0 hsz0 hholds
  have hval : ∀ (j : Nat) t v, Try.f3.params[j]? = some t → args[j]? = some v → Value.okWide Try.prog W .any base t v := hval0
  have hsz : (DataW.weightsEach Try.prog (Try.f3.params.toList ++ Rows.riceEncodesSpec.plain.varTypes Try.prog) (ds ++ gs)).all (· ≤ reachBytes) = true := hsz0
  have hW' := hW
  obtain ⟨p, q, hA0, hV, rfl, hfz, hnd⟩ := hW
  have hA : DataW.TrodAll enc Try.prog W 0 (fun _ => true) true Try.f3.params.toList args.toList ds p := hA0
  rw [Try.params3] at hA hval hsz
  obtain ⟨v0, vs0, d0, ds0, p0, q0, hargs, rfl, rfl, h0, r0⟩ := trodAll_cons hA
  obtain ⟨v1, vs1, d1, ds1, p1, q1, rfl, rfl, rfl, h1, r1⟩ := trodAll_cons r0
  obtain ⟨v2, vs2, d2, ds2, p2, q2, rfl, rfl, rfl, h2, r2⟩ := trodAll_cons r1
  obtain ⟨rfl, rfl, rfl⟩ := trodAll_nil r2
  obtain rfl : args = #[v0, v1, v2] := by cases args; simp_all
  obtain ⟨rfl, rfl⟩ := trodVars_none hV
  have hall := List.all_eq_true.1 hsz
  have hw0 : ∀ n ∈ d0.weights Try.prog 24, n ≤ reachBytes := fun n hn => by
    have := hall n (List.mem_append.2 (.inl hn))
    exact of_decide_eq_true this
  have k0 := h0
  have lt0 : ∀ x ∈ p0, x.block < W.heap.size := by obtain ⟨m, hm⟩ := k0; exact DataW.trod_lt m _ _ _ hm
  obtain ⟨x0, pa0, pc0, ea0, ec0, rfl, hr0⟩ := open_rice (hval 0 24 v0 rfl rfl) h0 hw0
  have k1 := h1
  have lt1 : ∀ x ∈ p1, x.block < W.heap.size := by obtain ⟨m, hm⟩ := k1; exact DataW.trod_lt m _ _ _ hm
  obtain ⟨xa1, xb1, rfl, ⟨ta1, tb1⟩, ⟨tc1, td1⟩⟩ := open_two (hval 1 25 v1 rfl rfl) h1
  have hw2 : ∀ n ∈ d2.weights Try.prog 22, n ≤ reachBytes := fun n hn => by
    have := hall n (List.mem_append.2 (.inr (List.mem_append.2 (.inr (List.mem_append.2 (.inl hn))))))
    exact of_decide_eq_true this
  have k2 := h2
  have lt2 : ∀ x ∈ p2, x.block < W.heap.size := by obtain ⟨m, hm⟩ := k2; exact DataW.trod_lt m _ _ _ hm
  obtain ⟨o2, c2, x2, rfl, hr2, hc2, hn2⟩ := open_list (hval 2 22 v2 rfl rfl) h2 hw2
  clear hA0 hval0
  refine (walk x0 pa0 pc0 ea0 ec0 xa1 xb1 ta1 tb1 tc1 td1 x2 o2 c2 hc2 hn2 W hr0 hr2).mono fun e W' ⟨he, bel⟩ => ?_
  subst he
  exact ⟨_, rfl, _, _, _, [], _, [], hW', trodAll_mk1 (shut_bool Try.underlying4 _), (trodAll_cons_mk (Below.trod laidOut (by kernel_rfl) (of_decide_eq_true (by kernel_rfl)) k0 bel lt0) (trodAll_cons_mk (Below.trod laidOut (by kernel_rfl) (of_decide_eq_true (by kernel_rfl)) k1 bel lt1) (trodAll_cons_mk (Below.trod laidOut (by kernel_rfl) (of_decide_eq_true (by kernel_rfl)) k2 bel lt2) trodAll_mk0))), rfl, bel.frame _, fun h => by cases h⟩

theorem over : Rows.riceEncodesRow.holds Try.pinned (OpenSpec.ofChange Rows.riceEncodesSpec) :=
  OpenClaim.holds_of_wide 3 Try.f3 rfl rfl rfl rfl rfl rfl rfl ⟨rfl, rfl, rfl, rfl, rfl⟩ rfl rfl rfl rfl rfl (by kernel_rfl) Try.func3 (by kernel_rfl)
    (of_decide_eq_true (by kernel_rfl)) (by unfold Func.isWrapper; first | (rw [if_pos (by decide +kernel)]; kernel_rfl) | (rw [if_neg (by decide +kernel)]; exact ⟨rfl, rfl⟩))
    (fun os started H enc _ => lifted os started H enc)

end Go.Proofs.Ytdlakbgcflekkaa.riceEncodes
namespace Go.Proofs.Ytdlakbgcflekkaa
theorem riceEncodes_holds : Rows.RiceEncodesSaid := riceEncodes.over
#print axioms riceEncodes_holds
end Go.Proofs.Ytdlakbgcflekkaa
