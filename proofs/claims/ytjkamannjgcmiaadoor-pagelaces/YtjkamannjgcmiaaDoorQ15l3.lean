/- Own text: the walk of PageBuilds over what the program's calls do. -/
import Derived.Test.YtjkamannjgcmiaaDoorG42x
import Derived.Deep.Upon
namespace Go.Proofs.YtjkamannjgcmiaaDoor
open Go.RowKit
set_option linter.unusedSimpArgs false
set_option linter.unusedVariables false

theorem own_strs {w : World} {B : Nat} {v : Value} {K : List ByteArray} (h : w.ownsRow B 9 1 v K.length (K.map Value.string)) : ∃ ao cap, v = .slice ao K.length cap ∧ StrsAt w ao K ∧ K.length ≤ cap := by
  obtain ⟨ao, cap, e, _, hle, hno, hat⟩ := owns_shape h
  refine ⟨ao, cap, e, ⟨fun h0 => ?_⟩, hle⟩
  cases ao with
  | none => have := (hno rfl).1; omega
  | some a =>
    obtain ⟨ea, _, _⟩ := hat a rfl
    have ho := h
    rw [e, ea] at ho
    refine ⟨a.block, 0, by rw [ea], fun i t hi => ?_⟩
    have hil := (List.getElem?_eq_some_iff.1 hi).1
    rw [Nat.zero_add, ho.cellAt i (by omega), List.getElem?_map, hi]
    rfl
/-- Texts appended to nothing: a row of the call's own. -/
theorem run_strs (pk : List ByteArray) (b : Option Addr) (d : Nat) (w : World) (ty : TypeId) (hp : StrsAt w b pk) (hn : pk.length ≤ 1048576) :
    ∃ ao cap w', (Builtin.append_ #[23, 23] ty #[.slice none 0 0, .slice b pk.length d]).run Tryd.prog w = .ok (.slice ao pk.length cap) w' ∧ StrsAt w' ao pk ∧ Below w.heap.size w w' ∧ pk.length ≤ cap := by
  obtain ⟨iS, hS0, hS1, hS2, hS3⟩ := info_parts5 (P := Tryd.prog) (e := 9) (z := .string ⟨#[]⟩) (s := 1) (b := 16) (by kernel_rfl)
  by_cases h0 : pk = []
  · subst h0
    refine ⟨none, 0, w, run_append_nothing w _ _ ty 9 iS Tryd.underlying23 hS0 none 0 0 (Nat.le_refl _) _ ?_, StrsAt.nil _ _, Below.refl _ _, Nat.zero_le _⟩
    rw [hS2]
    cases b with
    | none => exact Src.ofNil w Tryd.underlying23 d
    | some a => exact Src.ofSlice w Tryd.underlying23 a 0 d [] rfl (fun j u h => by cases h) (fun u h => by cases h)
  · obtain ⟨g, off, rfl, hc⟩ := hp.lies (List.length_pos_iff.2 h0)
    obtain ⟨v', w', hrun, r1, r2, r3⟩ := run_append_own_at (P := Tryd.prog) w w.heap.size 23 ty 9 iS (.string ⟨#[]⟩) 1 16 Tryd.underlying23 hS0 hS1 hS2 hS3 rfl (by decide) (.slice none 0 0) 0 [] (World.ownsRow_nil _ _ _ _) ⟨g, off, none⟩ pk.length d (pk.map Value.string) (by simp) (fun j u hu => by
      rw [List.getElem?_map] at hu
      cases hj : pk[j]? with
      | none => rw [hj] at hu; cases hu
      | some t =>
        rw [hj] at hu
        have hu := Option.some.inj hu
        rw [← hu]
        rw [Addr.add_mid]; exact hc j t hj) (fun u hu => by obtain ⟨t, _, rfl⟩ := List.mem_map.1 hu; rfl) (by simp only [maxLen]; omega) (by omega) (Nat.le_refl _)
    rw [Nat.zero_add, List.nil_append] at r1
    obtain ⟨ao, cap, e, hs, hcc⟩ := own_strs r1
    refine ⟨ao, cap, w', by rw [hrun, e], hs, ?_, hcc⟩
    exact grown_to r2 (Below.refl _ _) (Nat.le_refl _) (fun k e => by cases e)
theorem wpList_append_says {P : Program} (w : World) {ops : Array Oper} {rest : List Oper} {o : Oper} {a : Act} {Q : Exit → Act → World → Prop} (hgd : o.guard = none) (s x : Operand) (t : TypeId)
    (ho : o.op = .call { callee := .builtin .append, args := #[s, x], argTypes := #[t, t] }) {vs vx v' : Value} {w' : World} (hs : a.eval s = vs) (hx : a.eval x = vx) (hrun : (Builtin.append_ #[t, t] o.type #[vs, vx]).run P w = .ok v' w')
    (h : wpList P ops Q rest (a.put o.dst v') w') : wpList P ops Q (o :: rest) a w := by
  refine wpList_plain hgd fun K hK => ?_
  unfold Oper.wp
  simp [execOp, ho, resolve, invoke, builtin, hs, hx, hrun, Result.andThen]
  exact hK _ _ h

set_option maxRecDepth 20000 in
set_option maxHeartbeats 3200000 in
theorem builds15 {L : World → Prop} (D : Does15 L) (l : List Pg) (pk : List ByteArray) (a b : Option Addr) (c d : Nat) (w : World) (hL : L w) (hl : PgsAt w a l) (hp : StrsAt w b pk) (hbd : Bd l pk) : Calls Tryd.prog 4 #[.slice a l.length c, .slice b pk.length d] w fun e w' => e = .returned (.bool true) ∧ Below w.heap.size w w' := by
  have KA : Hid (∀ wx, Below w.heap.size w wx → Calls Tryd.prog 12 #[] wx fun e w' => e = .returned (.bool true) ∧ Below wx.heap.size wx w') := fun wx hb => awake15 D wx (D.keep _ _ hL hb)
  have HBD := hid hbd
  have HL := hid hl
  have HP := hid hp
  obtain ⟨bo, cap, w1, hrun, hs1, hb1, hcc⟩ := run_strs pk b d w 23 hp hbd.2.2.1
  have H1 : Hid (Below w.heap.size w w1) := hb1
  have HR := hid hrun
  have KB := D.bld l pk a bo c cap w1 (D.keep _ _ hL hb1) (hl.below hb1) hs1 hbd.1 hbd.2.1 hbd.2.2.1 hbd.2.2.2.1 hbd.2.2.2.2 hcc
  have KX : Hid (∀ wx, Below w.heap.size w wx → Calls Tryd.prog 14 #[.slice a l.length c, .slice b pk.length d] wx fun e w' => BldE l pk e ∧ Below wx.heap.size wx w') := fun wx hb => xbuild_any l pk a b c d wx (hl.below hb) (hp.below hb) hbd.1 hbd.2.1 hbd.2.2.1 hbd.2.2.2.1 hbd.2.2.2.2
  have KP : Hid (∀ wx, Below w.heap.size w wx → _) := fun wx hb => D.pkt l a c wx (hl.below hb) (by have := hbd.1; omega) (by have := hbd.2.1; omega)
  have KY : Hid (∀ wx, Below w.heap.size w wx → _) := fun wx hb => xpackets_any l a c wx (hl.below hb) (by have := hbd.1; omega) (by have := hbd.2.1; omega)
  clear D hL hl hp hs1 hb1 hbd hrun HP
  unfold BldE at KB KX
  generalize (bldP l (pk.map bytesOf)).1 = E at *
  generalize textOf (bldP l (pk.map bytesOf)).2 = T at *
  generalize pktL (lacesL l) = X at *
  generalize pktE (lacesL l) = E2 at *
  have bE : (E == E) = true := by simp
  have bE2 : (E2 == E2) = true := by simp
  go_enter Tryd.func4, Tryd.ntmps4
  go_wp2_with (at_builtin; go_loud (refine wpList_append_says _ rfl _ _ _ rfl rfl rfl HR.out ?_))
  refine KB.mono ?_
  rintro e w2 ⟨rfl, hb2⟩
  have H2 : Hid (Below w.heap.size w w2) := below_on H1.out H1.out.size hb2
  have kx := KX.out w2 H2.out
  clear KB hb2 H1 HR KX
  go_wp2_with fail
  refine kx.mono ?_
  rintro e w3 ⟨rfl, hb3⟩
  have H3 : Hid (Below w.heap.size w w3) := below_on H2.out H2.out.size hb3
  have kp := KP.out w3 H3.out
  clear kx hb3 H2 KP
  go_wp2_with fail
  refine kp.mono ?_
  rintro e w4 ⟨⟨ao, cp, rfl, hi1, _, _⟩, hb4⟩
  have H4 : Hid (Below w.heap.size w w4 ∧ IntsAt w4 ao X) := ⟨below_on H3.out H3.out.size hb4, hi1⟩
  have ky := KY.out w4 H4.out.1
  clear kp hb4 H3 KY hi1
  go_wp2_with fail
  refine ky.mono ?_
  rintro e w5 ⟨⟨ao2, cp2, rfl, hi2, _, _⟩, hb5⟩
  have H5 : Hid (Below w.heap.size w w5) := below_on H4.out.1 H4.out.1.size hb5
  have ki := ints_any X X ao ao2 cp cp2 w5 (H4.out.2.below hb5) hi2
  clear ky hb5 H4 hi2
  go_wp2_with fail
  refine ki.mono ?_
  rintro e w6 ⟨he, n, rfl⟩
  have he : e = .returned (.bool true) := by rw [he]; simp
  subst he
  have H6 : Hid (Below w.heap.size w (w5.drewN n)) := Below.drewN H5.out n
  generalize w5.drewN n = w6 at *
  clear ki H5
  go_wp2_with fail
  refine (KA.out w6 H6.out).mono ?_
  rintro e w7 ⟨rfl, hb7⟩
  have H7 : Hid (Below w.heap.size w w7) := below_on H6.out H6.out.size hb7
  clear hb7 KA
  go_wp2_with fail
  go_ret
  exact ⟨rfl, H7.out⟩

end Go.Proofs.YtjkamannjgcmiaaDoor
