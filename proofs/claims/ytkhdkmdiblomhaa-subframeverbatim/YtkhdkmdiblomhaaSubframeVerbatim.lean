/-
  SubframeVerbatim: any samples of a width may be written as they are, in as many bits as the chapter says. No condition.
-/
import Derived.Test.YtkhdkmdiblomhaaG35x
import Derived.Deep.CutRange
import Derived.WalkKit
import Derived.ProofKit
import Derived.OpenShut
import Derived.ShutString
import Derived.ChangeOld
import Derived.Below
import Derived.SizedLaws

namespace Go.Proofs.Ytkhdkmdiblomhaa.subframeVerbatim
open Go.ChangeShapes Go.WideShapes Go.ChangeAt Go.RowKit
open Go.ChangeMaps (open_string shut_string)
set_option linter.unusedSimpArgs false
set_option linter.unusedVariables false

theorem own : ownKnob Try.prog.godebug = none := by kernel_rfl
theorem laidOut : laidOutB Try.prog = true := by kernel_rfl

abbrev SV : Sb := ⟨1, 0, 0, 0, 0, [], R0⟩
theorem width_clamp (n : Int) : ∃ (p : Int) (V : Nat), (if 33 < n then 33 else n) = p ∧ (if 1 < p then p else 1) = (V : Int) ∧ 1 ≤ V ∧ V ≤ 33 := by
  refine ⟨_, (if 1 < (if 33 < n then 33 else n) then (if 33 < n then 33 else n) else 1).toNat, rfl, ?_, ?_, ?_⟩ <;> (split <;> split <;> omega)
def clampN (H x : Int) : Int := if -H < (if H - 1 < x then H - 1 else x) then (if H - 1 < x then H - 1 else x) else -H
theorem clampN_in (H x : Int) (h : 1 ≤ H) : -H ≤ clampN H x ∧ clampN H x < H := by
  unfold clampN; split <;> split <;> omega
theorem map_next10 (f : Int → Int) (l : List Int) (i : Nat) (h : i < l.length) : (l.take (i + 1)).map f = (l.take i).map f ++ [f (l.getD i 0)] := by
  rw [← take_next l i h, List.map_append]; rfl
theorem nums_exact (v : Int) (m : List Int) (hv : 1 ≤ v) (h : ∀ x ∈ m, sigE x v = 0) : (numsB 0 v m).length = v.toNat * m.length := by
  induction m with
  | nil => simp [numsB]
  | cons x t ih =>
    have e : numsB 0 v (x :: t) = oneB 0 v x ++ numsB 0 v t := by simp [numsB]
    have h1 : (oneB 0 v x).length = v.toNat := by
      have hx := (sigE_iff x v).1 (h x (by simp))
      unfold oneB sigB
      rw [if_neg (by omega), if_neg (by omega), if_pos hx, bitsOf_length]
    rw [e, List.length_append, h1, ih (fun y hy => h y (by simp [hy])), List.length_cons, Nat.mul_succ, Nat.add_comm]
theorem ver_ok (V : Nat) (m : List Int) (h1 : 1 ≤ V) (h2 : V ≤ 33) (hm : 1 ≤ m.length) (hm2 : m.length ≤ 65535) (hf : ∀ x ∈ m, sigE x V = 0) : okS SV V m :=
  ⟨⟨⟨by omega, by omega⟩, ⟨by omega, by omega⟩, ⟨by decide, by show (0 : Int) < V; omega⟩, Or.inl ⟨Or.inr rfl, ⟨rfl, rfl, rfl⟩, rfl, rfl⟩⟩, hf, dvB_zero m, (fun h => by cases h), (fun h => by rcases h with h | h <;> cases h)⟩
theorem ver_len (V : Nat) (m : List Int) (h1 : 1 ≤ V) (h2 : V ≤ 33) (hf : ∀ x ∈ m, sigE x V = 0) : (subB SV V m).length = 8 + V * m.length := by
  have e1 : (putB (typN SV) 7).length = 7 := by decide
  have e2 : (wstB 0).length = 1 := by decide
  have hs : shrL m 0 = m := by
    unfold shrL
    have : ∀ x ∈ m, (fun n : Int => n / 2 ^ 0) x = x := fun x _ => by show x / 2 ^ 0 = x; rw [Int.pow_zero, Int.ediv_one]
    rw [List.map_congr_left this, List.map_id']
  have hb : bodyB SV V (shrL m 0) = numsB 0 V m := by
    unfold bodyB
    rw [if_neg (by decide), if_pos rfl, hs]
    show numsB 0 ((V : Int) - 0) m = _
    rw [Int.sub_zero]
  have h3 := nums_exact V m (by omega) hf
  rw [Int.toNat_natCast] at h3
  unfold subB
  show (putB (typN SV) 7 ++ (wstB 0 ++ bodyB SV V (shrL m (0 : Int).toNat))).length = _
  rw [show (0 : Int).toNat = 0 from rfl, hb]
  simp only [List.length_append]
  omega

set_option maxRecDepth 20000 in
set_option maxHeartbeats 3200000 in
theorem walk (l : List Int) (lo : Option Addr) (lc : Nat) (hlc : l.length ≤ lc) (hl0 : lo = none → lc = 0) (width : Int) (width1 : -9223372036854775808 ≤ width) (width2 : width ≤ 9223372036854775807) (w : World) (rl : IntsAt w lo l) :
    Calls Try.prog 5 #[.slice lo l.length lc, .int .i64 width] w fun e w' => e = .returned (.bool true) ∧ Below w.heap.size w w' := by

  have KAw : Hid (∀ wx, Calls Try.prog 7 #[] wx fun e w' => e = .returned (.bool true) ∧ Below wx.heap.size wx w') := fun wx => awake_spec wx
  obtain ⟨i3, h3a, h3b, h3c, h3d⟩ := int_info
  have HI : Hid (IntsAt w lo l) := rl
  have hln := rl.len
  clear rl
  obtain ⟨p, V, hp, hV, hV1, hV33⟩ := width_clamp width
  obtain ⟨Hn, hHn⟩ : ∃ Hn : Nat, Hn = 2 ^ (V - 1) := ⟨_, rfl⟩
  have hH1 : 1 ≤ Hn := by rw [hHn]; exact Nat.one_le_two_pow
  have hH2 : Hn ≤ 4294967296 := by rw [hHn]; exact Nat.le_trans (Nat.pow_le_pow_right (by decide) (by omega)) (by decide : 2 ^ 32 ≤ 4294967296)
  have hpw : (2 : Int) ^ (V - 1) = (Hn : Int) := by rw [hHn]; simp
  have hvm : (V : Int) - 1 = ((V - 1 : Nat) : Int) := by omega
  have hvu : IntKind.u64.wrap ((V - 1 : Nat) : Int) = ((V - 1 : Nat) : Int) := by rw [IntKind.wrap_u64]; omega
  have HFIT : Hid (∀ x, sigE (clampN Hn x) V = 0) := fun x => by
    have h := clampN_in Hn x (by omega)
    rw [sigE_iff, Int.toNat_natCast, hpw]
    exact ⟨by omega, by omega, h.1, h.2⟩
  have HCI : Hid (∀ x, -(Hn : Int) ≤ clampN Hn x ∧ clampN Hn x < Hn) := fun x => clampN_in Hn x (by omega)
  generalize hV1m : V - 1 = Vm at *
  clear hHn hV1m
  go_enter Try.func5, Try.ntmps5
  go_wp2_with fail
  go_loopw [6, 7] (fun s6 s7 wr => ∃ (i : Nat) (v : Value), i ≤ l.length ∧ i ≤ 200 ∧ s7 = .int .i64 (i : Int) ∧ s6 = v ∧ Out w v ((l.take i).map (clampN Hn)) wr) (fun _ s7 _ => 200 - (intOf s7).toNat)
  case atStart => exact ⟨0, _, Nat.zero_le _, by omega, rfl, rfl, Out.nil w⟩
  case round =>
    obtain ⟨i, v, hi, hi2, rfl, rfl, hout⟩ := hrel
    obtain ⟨oa, oc, rfl⟩ := hout.shape
    by_cases hlt : i < l.length ∧ i < 200
    · obtain ⟨hl1, hl2⟩ := hlt
      obtain ⟨b1, o1, rfl, q1⟩ := HI.out.at i hl1
      have r1 := q1 wr hout.below
      have hxr := HI.out.rng i
      have HN : Hid ((l.take (i + 1)).map (clampN Hn) = (l.take i).map (clampN Hn) ++ [clampN Hn (l.getD i 0)]) := map_next10 _ l i hl1
      have hx5 : ((l.take i).map (clampN Hn)).length ≤ 17592186044415 := by rw [List.length_map, List.length_take]; omega
      generalize (l.take i).map (clampN Hn) = xs at *
      generalize l.getD i 0 = x at *
      have HO : Hid (Out w (.slice oa xs.length oc) xs wr) := hout
      clear hout q1
      obtain ⟨mn, hmn⟩ : ∃ mn, (if (Hn : Int) - 1 < x then (Hn : Int) - 1 else x) = mn := ⟨_, rfl⟩
      obtain ⟨c, hc⟩ : ∃ c, (if -(Hn : Int) < mn then mn else -(Hn : Int)) = c := ⟨_, rfl⟩
      have HCE : Hid (clampN Hn x = c) := by show _ = _; unfold clampN; rw [hmn, hc]
      have hci := HCI.out x
      rw [HCE.out] at hci HN
      have hdb : decide ((i : Int) < 200) = true := decide_eq_true (by omega)
      go_wp2_with (at_builtin; refine wpList_append_lies _ rfl (.tmp 27) (.tmp 38) 22 rfl w.heap.size 3 i3 (.int .i64 0) 1 8 undI3 h3a h3b h3c h3d rfl (by decide) (.slice oa xs.length oc) xs.length (intsC xs) rfl (HO.out.alloc _).own ⟨wr.heap.size, 0, none⟩ 1 1 [.int .i64 c] rfl rfl (World.news_of_block (cs := #[.int .i64 c]) (t := 3) (fr := (0, 0)) (tmp_new wr _)) (one_int _ _) (by decide) (by unfold maxLen; omega) (by omega) (HO.out.alloc _).below.size _ rfl ?_; intro gA cA wA ownA groA hatA hltA)
      have HPA : Hid (Out w (.slice (some ⟨gA, 0, none⟩) (xs.length + 1) cA) (xs ++ [c]) wA) := (HO.out.alloc _).push ownA groA
      clear ownA groA hatA hltA
      go_wp2_with fail
      go_roundw
      case rel => exact ⟨i + 1, _, by omega, by omega, by go_num, rfl, by rw [HN.out]; exact HPA.out⟩
      case measure => simp [intOf]; omega
    · have hml : ((l.take i).map (clampN Hn)).length = i := by rw [List.length_map, List.length_take]; omega
      have hcap : i ≤ oc ∧ (oa = none → oc = 0) ∧ Fr w.heap.size oa := by
        have ho := hout.own
        rw [hml] at ho
        rw [hml] at hout
        rcases ho.2 with ⟨h1, h2⟩ | ⟨g, c, cur, h1, hg, _, h2, _⟩
        · cases h1; exact ⟨by omega, fun _ => rfl, fun b hb => by cases hb⟩
        · cases h1; exact ⟨h2, fun e => (by cases e), fun b hb => by simp [blockOf] at hb; omega⟩
      have HFM : Hid (∀ x ∈ (l.take i).map (clampN Hn), sigE x V = 0) := fun x hx => by
        obtain ⟨y, _, rfl⟩ := List.mem_map.1 hx
        exact HFIT.out y
      have HM : Hid (IntsAt wr oa ((l.take i).map (clampN Hn)) ∧ Below w.heap.size w wr) := ⟨hout.ints (by rw [hml]; omega) (fit_rng _ V HFM.out), hout.below⟩
      have HC : Hid (i ≤ oc ∧ (oa = none → oc = 0) ∧ Fr w.heap.size oa) := hcap
      have HML : Hid (((l.take i).map (clampN Hn)).length = i) := hml
      rw [hml]
      clear hout hcap hml
      generalize (l.take i).map (clampN Hn) = m at *
      have hdb : decide ((i : Int) < (l.length : Int)) = true → decide ((i : Int) < 200) = false := fun h => by
        have := of_decide_eq_true h
        exact decide_eq_false (by omega)
      by_cases hi0 : i = 0
      · subst hi0
        by_cases hl0' : l.length = 0
        · have hd0 : decide (((0 : Nat) : Int) < (l.length : Int)) = false := decide_eq_false (by omega)
          clear hdb
          go_wp2_with fail
          refine (KAw.out wr).mono ?_
          rintro e w11 ⟨rfl, hb11⟩
          have HL11 : Hid (Below w.heap.size w w11) := HM.out.2.trans (hb11.mono HM.out.2.size)
          clear hb11
          go_wp2_with fail
          go_ret
          exact ⟨rfl, HL11.out⟩
        · omega
      · have kn := new_spec wr
        have hz := HM.out.2.size
        have hib : ((i : Int) == 0) = false := by rw [beq_eq_false_iff_ne]; omega
        have KE : Hid (∀ wx pp, IntsAt wx oa m → WrB wx pp none [] → Apart pp none oa m → Calls Try.prog 9 #[.pointer (some ⟨pp, 0, none⟩), .agg #[.int .i64 1, .int .i64 0, .int .i64 0, .int .i64 0, .int .i64 0, .slice none 0 0, .int .i64 0, .int .i64 0, .slice none 0 0, .slice none 0 0], .int .i64 (V : Int), .slice oa i oc] wx fun e w' => e = .returned (.int .i64 0) ∧ ∃ ao', WrB w' pp ao' (subB SV V m) ∧ Stays (foot pp none) wx w') := fun wx pp g1 g2 g3 => by
          have hk := does10.enc_ok SV V m none 0 none 0 none 0 oa oc pp none [] wx (by rw [HML.out]; exact HC.out.1) HC.out.2.1 (fun _ => rfl) (Nat.le_refl _) Bits01.nil (by decide) ⟨IntsAt.nil wx, ⟨IntsAt.nil wx, IntsAt.nil wx, by decide, by decide, by decide, by decide⟩, by decide, by decide, by decide, by decide, by decide⟩ g1 g2 (fun h => by cases h) (fun h => by cases h) (fun h => by cases h) g3 (ver_ok V m hV1 hV33 (by rw [HML.out]; omega) (by rw [HML.out]; omega) HFM.out)
          rw [HML.out] at hk
          refine hk.mono fun e w' hh => ?_
          obtain ⟨k1, ao', k2, k3, _⟩ := hh
          exact ⟨k1, ao', k2, k3⟩
        have HLN : Hid ((subB SV V m).length = 8 + V * i) := by show _ = _; rw [ver_len V m hV1 hV33 HFM.out, HML.out]
        have hmul : (V : Int) * (i : Int) = ((V * i : Nat) : Int) := by push_cast; rfl
        have hmb : V * i ≤ 6600 := Nat.le_trans (Nat.mul_le_mul hV33 hi2) (by decide)
        have hVi0 : 0 ≤ V * i := Nat.zero_le _
        generalize subB SV V m = BB at *
        generalize V * i = M at *
        obtain ⟨N8, hN8⟩ : ∃ N8 : Nat, N8 = 8 + M := ⟨_, rfl⟩
        rw [← hN8] at HLN
        have hsum : 8 + (M : Int) = (N8 : Int) := by omega
        have hN8b : N8 ≤ 7000 := by omega
        clear hN8
        have HAP : Hid (Apart wr.heap.size none oa m) := apart_old HM.out.1 (Nat.le_refl _)
        by_cases hil : i < l.length
        · have hd1 : decide ((i : Int) < (l.length : Int)) = true := decide_eq_true (by omega)
          have hd2 : decide ((i : Int) < 200) = false := decide_eq_false (by omega)
          clear hdb hlt
          go_wp2_with fail
          refine kn.mono ?_
          rintro e w3 ⟨rfl, hw3, hq3⟩
          have hb3 : Below wr.heap.size wr w3 := by rw [hq3]; exact (Below.refl _ _).alloc (Nat.le_refl _) _
          have HL3 : Hid (Below w.heap.size w w3) := HM.out.2.trans (hb3.mono HM.out.2.size)
          have ke := KE.out w3 wr.heap.size (HM.out.1.below hb3) hw3 HAP.out
          clear kn hw3 hq3 hb3 KE
          generalize hpp : wr.heap.size = pp at *
          clear hpp
          go_wp2_with fail
          refine ke.mono ?_
          rintro e w4 ⟨rfl, ao4, hw4, hs4⟩
          have HL4 : Hid (Below w.heap.size w w4) := HL3.out.trans (foot_below hs4 HL3.out.size hz (fun b hb => by cases hb))
          have kl := len_spec pp w4 ao4 BB hw4
          rw [HLN.out] at kl
          have hbq : ((N8 : Int) == (N8 : Int)) = true := by rw [beq_iff_eq]
          clear ke hw4 hs4 HL3
          go_wp2_with fail
          refine kl.mono ?_
          rintro e w5 ⟨rfl, hq⟩
          subst hq
          clear kl
          go_wp2_with fail
          refine (KAw.out w5).mono ?_
          rintro e w11 ⟨rfl, hb11⟩
          have HL11 : Hid (Below w.heap.size w w11) := HL4.out.trans (hb11.mono HL4.out.size)
          clear hb11
          go_wp2_with fail
          go_ret
          exact ⟨rfl, HL11.out⟩
        · have hd1 : decide ((i : Int) < (l.length : Int)) = false := decide_eq_false (by omega)
          clear hdb hlt
          go_wp2_with fail
          refine kn.mono ?_
          rintro e w3 ⟨rfl, hw3, hq3⟩
          have hb3 : Below wr.heap.size wr w3 := by rw [hq3]; exact (Below.refl _ _).alloc (Nat.le_refl _) _
          have HL3 : Hid (Below w.heap.size w w3) := HM.out.2.trans (hb3.mono HM.out.2.size)
          have ke := KE.out w3 wr.heap.size (HM.out.1.below hb3) hw3 HAP.out
          clear kn hw3 hq3 hb3 KE
          generalize hpp : wr.heap.size = pp at *
          clear hpp
          go_wp2_with fail
          refine ke.mono ?_
          rintro e w4 ⟨rfl, ao4, hw4, hs4⟩
          have HL4 : Hid (Below w.heap.size w w4) := HL3.out.trans (foot_below hs4 HL3.out.size hz (fun b hb => by cases hb))
          have kl := len_spec pp w4 ao4 BB hw4
          rw [HLN.out] at kl
          have hbq : ((N8 : Int) == (N8 : Int)) = true := by rw [beq_iff_eq]
          clear ke hw4 hs4 HL3
          go_wp2_with fail
          refine kl.mono ?_
          rintro e w5 ⟨rfl, hq⟩
          subst hq
          clear kl
          go_wp2_with fail
          refine (KAw.out w5).mono ?_
          rintro e w11 ⟨rfl, hb11⟩
          have HL11 : Hid (Below w.heap.size w w11) := HL4.out.trans (hb11.mono HL4.out.size)
          clear hb11
          go_wp2_with fail
          go_ret
          exact ⟨rfl, HL11.out⟩


set_option maxRecDepth 100000 in
theorem lifted (os : Os) (started : os.Started) (H : Type) (enc : TypeId × Value → H) :
    ReturnsInHanded {} Try.checked os 5 .any (Rows.subframeVerbatimSpec.pre6 enc Try.prog Try.f5 Rows.subframeVerbatimRow.domain false) (Rows.subframeVerbatimSpec.post enc Try.prog Try.f5 false true false false) := by
  refine returnsInHanded_of_change_sized (C := Try.checked) own started (by kernel_rfl) Try.func5
    (ChangeSpec.witness6 (enc := enc) (C := Try.checked) false ⟨#[], #[.slice none 0 0, .int .i64 0], []⟩ 8 (by kernel_rfl) (by kernel_rfl) (by kernel_rfl) (by kernel_rfl)) ?_
  intro W base args ds gs before hval0 hW hcnd0 hsz0 hholds
  have hval : ∀ (j : Nat) t v, Try.f5.params[j]? = some t → args[j]? = some v → Value.okWide Try.prog W .any base t v := hval0
  have hsz : (DataW.weightsEach Try.prog (Try.f5.params.toList ++ Rows.subframeVerbatimSpec.plain.varTypes Try.prog) (ds ++ gs)).all (· ≤ reachBytes) = true := hsz0
  have hW' := hW
  obtain ⟨p, q, hA0, hV, rfl, hfz, hnd⟩ := hW
  have hA : DataW.TrodAll enc Try.prog W 0 (fun _ => true) true Try.f5.params.toList args.toList ds p := hA0
  rw [Try.params5] at hA hval hsz
  obtain ⟨v0, vs0, d0, ds0, p0, q0, hargs, rfl, rfl, h0, r0⟩ := trodAll_cons hA
  obtain ⟨v1, vs1, d1, ds1, p1, q1, rfl, rfl, rfl, h1, r1⟩ := trodAll_cons r0
  obtain ⟨rfl, rfl, rfl⟩ := trodAll_nil r1
  obtain rfl : args = #[v0, v1] := by cases args; simp_all
  obtain ⟨rfl, rfl⟩ := trodVars_none hV
  have hall := List.all_eq_true.1 hsz
  have hw0 : ∀ n ∈ d0.weights Try.prog 22, n ≤ reachBytes := fun n hn => by
    have := hall n (List.mem_append.2 (.inl hn))
    exact of_decide_eq_true this
  have k0 := h0
  have lt0 : ∀ x ∈ p0, x.block < W.heap.size := by obtain ⟨m, hm⟩ := k0; exact DataW.trod_lt m _ _ _ hm
  obtain ⟨o0, c0, x0, rfl, hr0, hc0, hn0⟩ := open_list (hval 0 22 v0 rfl rfl) h0 hw0
  obtain ⟨x1, rfl, rfl, rfl, i1⟩ := open_int Try.underlying3 (hval 1 3 v1 rfl rfl) h1
  have ib1 := bounds_i64 i1
  clear hA0 hval0
  refine (walk x0 o0 c0 hc0 hn0 x1 ib1.1 ib1.2 W hr0).mono fun e W' ⟨he, bel⟩ => ?_
  subst he
  exact ⟨_, rfl, _, _, _, [], _, [], hW', trodAll_mk1 (shut_bool Try.underlying4 _), (trodAll_cons_mk (Below.trod laidOut (by kernel_rfl) (of_decide_eq_true (by kernel_rfl)) k0 bel lt0) (trodAll_cons_mk (shut_int Try.underlying3 i1) trodAll_mk0)), rfl, bel.frame _, fun h => by cases h⟩

theorem over : Rows.subframeVerbatimRow.holds Try.pinned (OpenSpec.ofChange Rows.subframeVerbatimSpec) :=
  OpenClaim.holds_of_wide 5 Try.f5 rfl rfl rfl rfl rfl rfl rfl ⟨rfl, rfl, rfl, rfl, rfl⟩ rfl rfl rfl rfl rfl (by kernel_rfl) Try.func5 (by kernel_rfl)
    (of_decide_eq_true (by kernel_rfl)) (by unfold Func.isWrapper; first | (rw [if_pos (by decide +kernel)]; kernel_rfl) | (rw [if_neg (by decide +kernel)]; exact ⟨rfl, rfl⟩))
    (fun os started H enc _ => lifted os started H enc)

end Go.Proofs.Ytkhdkmdiblomhaa.subframeVerbatim
namespace Go.Proofs.Ytkhdkmdiblomhaa
theorem subframeVerbatim_holds : Rows.SubframeVerbatimSaid := subframeVerbatim.over
#print axioms subframeVerbatim_holds
end Go.Proofs.Ytkhdkmdiblomhaa
