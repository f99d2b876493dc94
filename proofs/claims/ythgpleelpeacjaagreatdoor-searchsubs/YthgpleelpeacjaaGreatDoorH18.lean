/- Own text. -/
import Derived.Deep.RegionLaw
import Derived.Test.YthgpleelpeacjaaGreatDoorH14
set_option linter.unusedSimpArgs false
set_option linter.unusedVariables false
set_option maxRecDepth 20000
set_option maxHeartbeats 12800000
namespace Go.Proofs.YthgpleelpeacjaaGreatDoor
open Go.RowKit
structure XS (w : World) (c : Rc) (pa : Option Addr) (pc : Nat) (ea : Option Addr) (ec : Nat) (y : Nat) (aj : Option Addr) (B : List Nat) (wx : World) : Prop where
 below : Below w.heap.size w wx
 bx : wx.heap[w.heap.size]? = some (.cells (riceC c pa pc ea ec) 25 (0, 0))
 xw : XwB wx y aj B
 lt : w.heap.size < y
 nb : ∀ b, blockOf aj = some b → w.heap.size < b
section
variable {w wx w' : World} {c : Rc} {pa : Option Addr} {pc : Nat} {ea : Option Addr} {ec : Nat} {y : Nat} {aj aj' : Option Addr} {B B' : List Nat}
theorem XwB.below {w w' : World} {x : Nat} {ao : Option Addr} {B : List Nat} (h : XwB w x ao B) (hb : Below w.heap.size w w') : XwB w' x ao B := h.stays (Stays.of_below hb (fun _ => False)) (fun h => h) (fun _ _ h => h)
theorem XwB.new (w : World) : XwB (w.alloc (.cells #[.slice none 0 0] 126)) w.heap.size none [] := ⟨0, heap_alloc_new _ _, World.ownsRow_nil _ _ _ _, by simp [blockOf]⟩
theorem XS.start (h : RB w c pa pc ea ec wx) : XS w c pa pc ea ec wx.heap.size none [] (wx.alloc (.cells #[.slice none 0 0] 126)) :=
 ⟨(h.next ((Below.refl _ _).alloc (Nat.le_refl _) _)).below, (h.next ((Below.refl _ _).alloc (Nat.le_refl _) _)).box, XwB.new wx, lt_of_block h.box, fun b hb => by cases hb⟩
theorem XS.low (h : XS w c pa pc ea ec y aj B wx) (hb : Below wx.heap.size wx w') : XS w c pa pc ea ec y aj B w' :=
 ⟨h.below.trans (hb.mono h.below.size), by rw [hb.block _ (lt_of_block h.bx)]; exact h.bx, h.xw.below hb, h.lt, h.nb⟩
theorem XS.drew (h : XS w c pa pc ea ec y aj B wx) : XS w c pa pc ea ec y aj B wx.drew := h.low ⟨rfl, rfl, rfl, Nat.le_refl _, fun _ _ => rfl⟩
theorem XS.put (h : XS w c pa pc ea ec y aj B wx) (hw : XwB w' y aj' B') (hS : Stays (foot y aj) wx w') (hM : Moved wx.heap.size aj aj') : XS w c pa pc ea ec y aj' B' w' := by
 have hl := lt_of_block h.bx
 refine ⟨h.below.trans (foot_below hS h.below.size (Nat.le_of_lt h.lt) (fun b hb => Nat.le_of_lt (h.nb b hb))), ?_, hw, h.lt, fun b hb => ?_⟩
 ·rw [hS.block _ hl (fun hf => by
   rcases hf with hf | hf
   ·have := h.lt; omega
   ·have := h.nb _ hf; omega)]
  exact h.bx
 ·rcases hM b hb with h1 | h1
  ·exact h.nb b h1
  ·omega
theorem XS.cells (h : XS w c pa pc ea ec y aj B wx) : wx.cell? ⟨w.heap.size, 0, none⟩ = some (.int .i64 c.m) ∧ wx.cell? ⟨w.heap.size, 1, none⟩ = some (.int .i64 c.o) ∧ wx.cell? ⟨w.heap.size, 2, none⟩ = some (.slice pa c.P.length pc) ∧ wx.cell? ⟨w.heap.size, 3, none⟩ = some (.slice ea c.E.length ec) := RB.of_box h.bx
end
theorem xenc_chk (c : Rc) (l : List Int) (hs : ShX l) (pa : Option Addr) (pc : Nat) (ea : Option Addr) (ec : Nat) (lo : Option Addr) (cap : Nat) (x : Nat) (w : World) (hr : RcAt w c pa ea) (hl : IntsAt w lo l) (b r : Int) (hno : ¬ chkOk c b r) :
  Calls Tryz.prog 153 #[.pointer (some ⟨x, 0, none⟩), riceV c pa pc ea ec, .int .i64 b, .int .i64 r, .slice lo l.length cap] w fun en w' => en = .returned (.int .i64 60) ∧ Below w.heap.size w w' := by
 have HB0 : Hid (RB w c pa pc ea ec (w.alloc (.cells (riceC c pa pc ea ec) 25))) := RB.new w c pa pc ea ec
 have KC : Hid (∀ wx, Below w.heap.size w wx → Calls Tryz.prog 196 #[riceV c pa pc ea ec, .int .i64 b, .int .i64 r] wx fun en w' => en = .returned (.int .i64 60) ∧ Below wx.heap.size wx w') := fun wx hb => (xcheck_spec c b r pa pc ea ec wx (hr.below hb)).mono fun e w' hh => ⟨by rw [hh.1, chk_no hno], hh.2⟩
 clear hno hr hl hs
 go_enter Tryz.func153, Tryz.ntmps153
 go_wp2_with fail
 generalize hwa : w.alloc _ = wa at *
 clear hwa
 refine (KC.out wa HB0.out.below).mono ?_
 rintro e w2 ⟨rfl, hb2⟩
 have HR2 : Hid (Below w.heap.size w w2) := (HB0.out.next hb2).below
 clear hb2
 go_wp2_with fail
 go_ret
 exact ⟨rfl, HR2.out⟩
theorem xenc_len (c : Rc) (l : List Int) (hs : ShX l) (pa : Option Addr) (pc : Nat) (ea : Option Addr) (ec : Nat) (lo : Option Addr) (cap : Nat) (x : Nat) (w : World) (hr : RcAt w c pa ea) (hl : IntsAt w lo l) (b o r : Nat) (h : Rok c b o r) (hno : ¬ l.length = b - r) :
  Calls Tryz.prog 153 #[.pointer (some ⟨x, 0, none⟩), riceV c pa pc ea ec, .int .i64 (b : Int), .int .i64 (r : Int), .slice lo l.length cap] w fun en w' => en = .returned (.int .i64 60) ∧ Below w.heap.size w w' := by
 have HB0 : Hid (RB w c pa pc ea ec (w.alloc (.cells (riceC c pa pc ea ec) 25))) := RB.new w c pa pc ea ec
 have KC : Hid (∀ wx, Below w.heap.size w wx → Calls Tryz.prog 196 #[riceV c pa pc ea ec, .int .i64 (b : Int), .int .i64 (r : Int)] wx fun en w' => en = .returned (.int .i64 0) ∧ Below wx.heap.size wx w') := fun wx hb => (xcheck_spec c b r pa pc ea ec wx (hr.below hb)).mono fun e w' hh => ⟨by rw [hh.1, chk_yes h.chk], hh.2⟩
 have hrb := h.cut.rb
 have hb2 := h.cut.b2
 have h5 := hs.2
 have hbn : ((l.length : Int) != (b : Int) - (r : Int)) = true := by rw [bne_iff_ne]; omega
 clear hno hr hl hs h
 go_enter Tryz.func153, Tryz.ntmps153
 go_wp2_with fail
 generalize hwa : w.alloc _ = wa at *
 clear hwa
 refine (KC.out wa HB0.out.below).mono ?_
 rintro e w2 ⟨rfl, hb2⟩
 have HR2 : Hid (RB w c pa pc ea ec w2) := HB0.out.next hb2
 clear hb2 HB0
 have x0 := HR2.out.c0
 have x1 := HR2.out.c1
 have x2 := HR2.out.c2
 have x3 := HR2.out.c3
 go_wp2_with fail
 go_ret
 exact ⟨rfl, HR2.out.below⟩
theorem step_append_mine {P : Program} (w : World) {ops : Array Oper} {o : Oper} {a : Act} {K : Act → World → Prop} {Q : Exit → Act → World → Prop} {E : Prop} (hgd : o.guard = none) (s x : Operand) (t : TypeId)
  (ho : o.op = .call { callee := .builtin .append, args := #[s, x], argTypes := #[t, t] }) (e : TypeId) (i : TypeInfo) (z : Value) (bytes : Nat) (ht : P.underlying t = some (.slice e)) (hi : P.info? e = some i) (hz : i.zero = some z)
  (hsize : i.size = 1) (hby : i.bytes = bytes) (hzs : z.cells.size = 1)
  (ao : Option Addr) (cap n : Nat) (xs : List Value) (hs : a.eval s = .slice ao n cap) (hown : w.ownsRow 0 e 1 (.slice ao n cap) n xs)
  (ad : Addr) (m c : Nat) (news : List Value) (hx : a.eval x = .slice (some ad) m c) (hl : news.length = m) (hnews : ∀ j u, news[j]? = some u → w.cell? (ad.add j) = some u) (h1 : ∀ u ∈ news, u.oneCell' = true)
  (h63 : n + m ≤ maxLen) (hbytes : (n + m) * bytes ≤ 140737488355328)
  (h : ∀ ao' cap' w', Hid (w'.ownsRow 0 e 1 (.slice ao' (n + m) cap') (n + m) (xs ++ news)) → Hid (w.grownBy w' (blockOf ao)) → Hid (Moved w.heap.size ao ao') → K (a.put o.dst (.slice ao' (n + m) cap')) w') :
  if Region.wanted o (yielded ops a.tmps) = true then Oper.wp P o a w K Q else E := by
 have hw : Region.wanted o (yielded ops a.tmps) = true := by simp [Region.wanted, hgd]
 rw [if_pos hw]
 obtain ⟨ao', cap', w', hr, h2, h3, h5⟩ := run_append_mine (P := P) w t o.type e i z bytes ht hi hz hsize hby hzs ao cap n xs hown ad m c news hl hnews h1 h63 hbytes
 unfold Oper.wp execOp
 simp only [ho, resolve, invoke, builtin, Sem.run_bind, Sem.run_pure, Result.andThen_ok, List.map_toArray, List.map_cons, List.map_nil, hs, hx, hr]
 exact h ao' cap' w' h2 h3 h5
theorem byteVals_one (bs : List Nat) : ∀ u ∈ byteVals bs, u.oneCell' = true := by
 intro u hu
 obtain ⟨n, _, rfl⟩ := List.mem_map.1 hu
 rfl
def XEnd (w : World) (x : Nat) (ao : Option Addr) (B E : List Nat) (ok : Bool) (en : Ending) (w' : World) : Prop :=
 en = .returned (.int .i64 (if ok then 0 else 60)) ∧ ∃ ao', XwB w' x ao' (if ok then B ++ E else B) ∧ Stays (foot x ao) w w' ∧ Moved w.heap.size ao ao'
theorem XEnd.no {w w' : World} {x : Nat} {ao : Option Addr} {B E : List Nat} (hw : XwB w x ao B) (hb : Below w.heap.size w w') : XEnd w x ao B E false (.returned (.int .i64 60)) w' :=
 ⟨rfl, ao, hw.below hb, Stays.of_below hb _, Moved.refl _ _⟩
theorem xenc_main (c : Rc) (l : List Int) (hs : ShX l) (pa : Option Addr) (pc : Nat) (ea : Option Addr) (ec : Nat) (lo : Option Addr) (cap : Nat) (x : Nat) (w : World) (hr : RcAt w c pa ea) (hl : IntsAt w lo l) (ao : Option Addr) (B : List Nat) (hB : B.length ≤ 1300000000000) (hw : XwB w x ao B) (b o r : Nat) (h : Rok c b o r) (hlen : l.length = b - r) :
  Calls Tryz.prog 153 #[.pointer (some ⟨x, 0, none⟩), riceV c pa pc ea ec, .int .i64 (b : Int), .int .i64 (r : Int), .slice lo l.length cap] w fun en w' => XEnd w x ao B (encB c b r l) (fitB c b o r l) en w' := by
 have HB0 : Hid (RB w c pa pc ea ec (w.alloc (.cells (riceC c pa pc ea ec) 25))) := RB.new w c pa pc ea ec
 have KC : Hid (∀ wx, Below w.heap.size w wx → Calls Tryz.prog 196 #[riceV c pa pc ea ec, .int .i64 (b : Int), .int .i64 (r : Int)] wx fun en w' => en = .returned (.int .i64 0) ∧ Below wx.heap.size wx w') := fun wx hb => (xcheck_spec c b r pa pc ea ec wx (hr.below hb)).mono fun e w' hh => ⟨by rw [hh.1, chk_yes h.chk], hh.2⟩
 have hrb := h.cut.rb
 have hb2 := h.cut.b2
 have h5 := hs.2
 have hm0 := h.m0
 have hm1 := h.m1
 have ho15 := h.cut.o15
 have hp15 := pow15 o ho15
 have hn32 := hp15.2
 have hot : c.o.toNat = o := by have := h.ho; omega
 have HEB : Hid (encB c b r l = putB c.m 2 ++ putB c.o 4 ++ partsB c b o r l (2 ^ o)) := by show _ = _; unfold encB; rw [hot]
 have HW : Hid (XwB w x ao B) := hw
 have hbn : ((l.length : Int) != (b : Int) - (r : Int)) = false := by rw [bne_eq_false_iff_eq]; omega
 have HRC : Hid (RcAt w c pa ea) := hr
 have HL : Hid (IntsAt w lo l) := hl
 have HSX : Hid (ShX l) := hs
 have HK : Hid (Rok c b o r) := h
 have HLN : Hid (l.length = b - r) := hlen
 have hco := h.ho
 have hc0 : 0 ≤ c.o := by omega
 have hc1 : c.o ≤ 15 := by omega
 have HLB : Hid (∀ n, n ≤ 2 ^ o → (putB c.m 2 ++ putB c.o 4 ++ partsB c b o r l n).length ≤ 1300000000000) := fun n hn => by
  have h1 := parts_room c hm1 h.cut l hlen n hn h5
  have h2 := putB_short c.m 2 (by omega)
  have h3 := putB_short c.o 4 (by omega)
  simp only [List.length_append]
  omega
 have hpow : (2 : Int) ^ o = ((2 ^ o : Nat) : Int) := by simp
 have HCO : Hid (c.o = (o : Int)) := hco
 have HKP : Hid (∀ (j : Nat) wx, j < 2 ^ o → Calls Tryz.prog 82 #[riceV c pa pc ea ec, .int .i64 (b : Int), .int .i64 (r : Int), .int .i64 (j : Int)] wx fun en w' => en = .returned (.tuple #[.int .i64 (frN b o r j : Int), .int .i64 (frN b o r (j + 1) : Int)]) ∧ Below wx.heap.size wx w') := fun j wx hj => xpart_spec c b o r j h.cut h.ho hj pa pc ea ec wx
 have hcn : c.o.toNat = o := hot
 have HRW : Hid (∀ j, j < 2 ^ o → (c.E.getD j 0 = -1 ∧ 0 ≤ c.P.getD j 0 ∧ c.P.getD j 0 ≤ 30) ∨ (0 ≤ c.E.getD j 0 ∧ c.E.getD j 0 ≤ 31 ∧ c.P.getD j 0 = 0)) := h.row
 have HPB : Hid (∀ j, j < 2 ^ o → frN b o r j ≤ frN b o r (j + 1) ∧ frN b o r (j + 1) ≤ l.length ∧ (partN l b o r j).length = frN b o r (j + 1) - frN b o r j) := fun j hj => ⟨frN_mono b o r j, by rw [hlen]; exact frN_bound h.cut (j + 1) hj, partN_length l h.cut hlen j hj⟩
 have HGF : Hid (∀ n, (c.P.length = 2 ^ o) ∧ c.E.length = 2 ^ o ∧ (0 : Nat) ≤ n) := fun n => ⟨h.lP, h.lE, Nat.zero_le _⟩
 have HNO : Hid (∀ j xx, j < 2 ^ o → xx ∈ partN l b o r j → ¬ fitE (c.P.getD j 0) (c.E.getD j 0) xx → fitB c b o r l = false) := fun j xx hj hx hf => fitB_no (fun hh => hf (hh.2 j hj xx hx))
 have HYS : Hid (allFit c b o r l (2 ^ o) → fitB c b o r l = true) := fun hh => (fitB_iff c b o r l).2 ⟨hlen, hh⟩
 clear hr hl hs h hlen hot hco hw
 generalize hpn : 2 ^ o = N at *
 have HPN : Hid (2 ^ o = N) := hpn
 clear hpn
 go_enter Tryz.func153, Tryz.ntmps153
 go_wp2_with fail
 generalize hwa : w.alloc _ = wa at *
 clear hwa
 refine (KC.out wa HB0.out.below).mono ?_
 rintro e w2 ⟨rfl, hb2⟩
 have HR2 : Hid (RB w c pa pc ea ec w2) := HB0.out.next hb2
 clear hb2 HB0
 have x0 := HR2.out.c0
 have x1 := HR2.out.c1
 have x2 := HR2.out.c2
 have x3 := HR2.out.c3
 have hcw : IntKind.u64.wrap c.o = c.o := by rw [IntKind.wrap_u64]; omega
 have HX3 : Hid (XS w c pa pc ea ec w2.heap.size none [] (w2.alloc (.cells #[.slice none 0 0] 126))) := XS.start HR2.out
 obtain ⟨z0, z1, z2, z3⟩ := HX3.out.cells
 clear HR2 x1 x2 x3
 have kp := xput_all (w2.alloc (.cells #[.slice none 0 0] 126)) none [] w2.heap.size c.m 2 (by omega) (by omega) (by simp) HX3.out.xw
 go_wp2_with fail
 refine kp.mono ?_
 rintro e w4 ⟨rfl, a4, hw4, hs4, hv4⟩
 generalize hy : w2.heap.size = y at *
 have HX4 : Hid (XS w c pa pc ea ec y a4 ([] ++ putB c.m 2) w4) := HX3.out.put hw4 hs4 hv4
 clear hw4 hs4 hv4 kp x0 z0 z1 z2 z3 hy
 obtain ⟨z0, z1, z2, z3⟩ := HX4.out.cells
 have kp := xput_all w4 a4 ([] ++ putB c.m 2) y c.o 4 (by omega) (by omega) (by rw [List.nil_append]; have := putB_short c.m 2 (by omega); omega) HX4.out.xw
 go_wp2_with fail
 refine kp.mono ?_
 rintro e w5 ⟨rfl, a5, hw5, hs5, hv5⟩
 have HX5 : Hid (XS w c pa pc ea ec y a5 ([] ++ putB c.m 2 ++ putB c.o 4) w5) := HX4.out.put hw5 hs5 hv5
 clear hw5 hs5 hv5 kp z0 z1 z2 z3 HX4
 obtain ⟨z0, z1, z2, z3⟩ := HX5.out.cells
 go_wp2_with fail
 clear z0 z1 z2 z3
 go_loopw [14, 15, 16, 17, 18, 19, 99, 113, 123] (fun s14 s15 s16 s17 s18 s19 s99 s113 s123 wr => ∃ (j : Nat) (aj : Option Addr), j ≤ N ∧ s14 = .int .i64 (j : Int) ∧ allFit c b o r l j ∧ XS w c pa pc ea ec y aj (putB c.m 2 ++ putB c.o 4 ++ partsB c b o r l j) wr) (fun s14 _ _ _ _ _ _ _ _ _ => N - (intOf s14).toNat)
 case atStart => exact ⟨0, a5, Nat.zero_le _, rfl, fun i hi => absurd hi (Nat.not_lt_zero _), by rw [partsB_zero, List.append_nil]; exact HX5.out⟩
 case round =>
  clear HX5 HX3
  obtain ⟨j, aj, hj, rfl, hfj, hxs⟩ := hrel
  have HX : Hid (XS w c pa pc ea ec y aj (putB c.m 2 ++ putB c.o 4 ++ partsB c b o r l j) wr) := hxs
  have HFJ : Hid (allFit c b o r l j) := hfj
  clear hxs hfj
  by_cases hlt : j < N
  ·have hjP : j < c.P.length := by rw [(HGF.out 0).1]; exact hlt
   have hjE : j < c.E.length := by rw [(HGF.out 0).2.1]; exact hlt
   obtain ⟨b1, o1, e1⟩ := HRC.out.P.addr (by omega)
   obtain ⟨b2, o2, e2⟩ := HRC.out.E.addr (by omega)
   subst e1
   subst e2
   obtain ⟨hff, hfl', hXl⟩ := HPB.out j hlt
   have hrow := HRW.out j hlt
   have hlb := HLB.out j (by omega)
   have HCC : Hid (∀ wx, Below w.heap.size w wx → wx.cell? ⟨b1, o1 + j, none⟩ = some (.int .i64 (c.P.getD j 0)) ∧ wx.cell? ⟨b2, o2 + j, none⟩ = some (.int .i64 (c.E.getD j 0))) := fun wx hb => ⟨(HRC.out.P.below hb).get j hjP, (HRC.out.E.below hb).get j hjE⟩
   have HPS : Hid (putB c.m 2 ++ putB c.o 4 ++ partsB c b o r l (j + 1) = putB c.m 2 ++ putB c.o 4 ++ partsB c b o r l j ++ headB c.m (c.P.getD j 0) (c.E.getD j 0) ++ numsB (c.P.getD j 0) (c.E.getD j 0) (partN l b o r j)) := by
    show _ = _
    rw [partsB_succ]
    unfold partB
    simp only [List.append_assoc]
   have HNEXT : Hid ((∀ xx ∈ partN l b o r j, fitE (c.P.getD j 0) (c.E.getD j 0) xx) → allFit c b o r l (j + 1)) := fun hh i hi => by
    by_cases e : i = j
    ·rw [e]; exact hh
    ·exact HFJ.out i (by omega)
   have HNJ : Hid (∀ xx ∈ partN l b o r j, ¬ fitE (c.P.getD j 0) (c.E.getD j 0) xx → fitB c b o r l = false) := fun xx hx hf => HNO.out j xx hlt hx hf
   have HRG : Hid (∀ xx ∈ partN l b o r j, -9223372036854775808 ≤ xx ∧ xx ≤ 9223372036854775807) := fun xx hx => HL.out.num xx (List.mem_of_mem_drop (List.mem_of_mem_take hx))
   have HXG : Hid (∀ n, n < (partN l b o r j).length → (partN l b o r j).getD n 0 = l.getD (frN b o r j + n) 0) := fun n hn => by
    unfold partN
    exact getD_part l _ _ n (by omega)
   have HLA : Hid (∀ {k : Nat}, k < l.length → ∃ bl ol, lo = some ⟨bl, ol, none⟩) := fun {k} hk => HL.out.addr (by omega)
   have kq := HKP.out j wr hlt
   have hhl := headB_len c.m (c.P.getD j 0) (c.E.getD j 0) hm1
   have hfr : frN b o r (j + 1) ≤ 65535 := by omega
   have hX5 : (partN l b o r j).length ≤ 65535 := by omega
   clear HRW HNO HPB HKP HLB HFJ
   generalize putB c.m 2 ++ putB c.o 4 ++ partsB c b o r l j = BJ at *
   generalize partN l b o r j = X at *
   generalize hf1 : frN b o r (j + 1) = f' at *
   generalize hf2 : frN b o r j = f at *
   clear hf1 hf2
   generalize c.P.getD j 0 = kk at *
   generalize c.E.getD j 0 = ee at *
   obtain ⟨z0, z1, z2, z3⟩ := HX.out.cells
   go_wp2_with fail
   refine kq.mono ?_
   rintro e w3 ⟨rfl, hb3⟩
   have HX3 : Hid (XS w c (some ⟨b1, o1, none⟩) pc (some ⟨b2, o2, none⟩) ec y aj BJ w3) := HX.out.low hb3
   clear hb3 kq z0 z1 z2 z3 HX
   obtain ⟨z0, z1, z2, z3⟩ := HX3.out.cells
   obtain ⟨r1, r2⟩ := HCC.out w3 HX3.out.below
   rcases hrow with ⟨rfl, k0, k1⟩ | ⟨e0, e1, rfl⟩
   ·obtain ⟨kn, rfl⟩ : ∃ n : Nat, kk = n := ⟨kk.toNat, by omega⟩
    have HHB : Hid (headB c.m (kn : Int) (-1) = putB (kn : Int) (4 + c.m)) := by show _ = _; unfold headB; rw [if_pos rfl]
    have kp := xput_all w3 aj BJ y (kn : Int) (4 + c.m) (by omega) (by omega) (by omega) HX3.out.xw
    go_wp2_with fail
    refine kp.mono ?_
    rintro e w4 ⟨rfl, ah, hw4, hs4, hv4⟩
    have HXh : Hid (XS w c (some ⟨b1, o1, none⟩) pc (some ⟨b2, o2, none⟩) ec y ah (BJ ++ headB c.m (kn : Int) (-1)) w4) := by
     rw [HHB.out]
     exact HX3.out.put hw4 hs4 hv4
    clear hw4 hs4 hv4 kp z0 z1 z2 z3 r1 r2 HX3 HHB
    have hbh : (BJ ++ headB c.m (kn : Int) (-1)).length ≤ 1400000000000 := by rw [List.length_append]; omega
    generalize BJ ++ headB c.m (kn : Int) (-1) = BH at *
    go_wp2_with fail
    go_loopw [18, 19, 99, 113, 123] (fun s18 s19 s99 s113 s123 wz => ∃ (n : Nat) (an : Option Addr), n ≤ X.length ∧ s18 = .int .i64 ((f + n : Nat) : Int) ∧ (∀ xx ∈ X.take n, fitE (kn : Int) (-1) xx) ∧ XS w c (some ⟨b1, o1, none⟩) pc (some ⟨b2, o2, none⟩) ec y an (BH ++ numsB (kn : Int) (-1) (X.take n)) wz) (fun s18 _ _ _ _ _ => f' - (intOf s18).toNat)
    case atStart => exact ⟨0, ah, Nat.zero_le _, rfl, fun xx hx => absurd hx (by simp), by rw [List.take_zero, numsB_nil, List.append_nil]; exact HXh.out⟩
    case round =>
     clear HXh
     obtain ⟨n, an, hn, rfl, hfn, hxn⟩ := hrel
     have HXn : Hid (XS w c (some ⟨b1, o1, none⟩) pc (some ⟨b2, o2, none⟩) ec y an (BH ++ numsB (kn : Int) (-1) (X.take n)) wr) := hxn
     have HFN : Hid (∀ xx ∈ X.take n, fitE (kn : Int) (-1) xx) := hfn
     clear hxn hfn
     by_cases hnl : n < X.length
     ·have hfl : f + n < l.length := by omega
      obtain ⟨bl, ol, rfl⟩ := HLA.out hfl
      have HXX : Hid (X.getD n 0 ∈ X) := getD_mem X n hnl
      have HSM : Hid (-9223372036854775808 ≤ X.getD n 0 ∧ X.getD n 0 ≤ 9223372036854775807) := HRG.out _ HXX.out
      have HTN : Hid (X.take (n + 1) = X.take n ++ [X.getD n 0]) := take_snoc X n hnl
      have HCL : Hid (∀ aw Bw wx, Hid (XS w c (some ⟨b1, o1, none⟩) pc (some ⟨b2, o2, none⟩) ec y aw (Bw) wx) → wx.cell? ⟨bl, ol + (f + n), none⟩ = some (.int .i64 (X.getD n 0)) ∧ wx.cell? ⟨b1, o1 + j, none⟩ = some (.int .i64 (kn : Int)) ∧ wx.cell? ⟨w.heap.size, 2, none⟩ = some (.slice (some ⟨b1, o1, none⟩) c.P.length pc)) := fun aw Bw wx hx => ⟨by rw [HXG.out n hnl]; exact (HL.out.below hx.out.below).get (f + n) hfl, (HCC.out wx hx.out.below).1, by have := hx.out.cells.2.2.1; exact this⟩
      have hln : (BH ++ numsB (kn : Int) (-1) (X.take n)).length ≤ 3000000000000 := by
       rw [List.length_append]
       have := numsB_len (kn : Int) (-1) (X.take n)
       rw [List.length_take] at this
       have : 17000000 * min n X.length ≤ 17000000 * 65535 := Nat.mul_le_mul_left _ (by omega)
       omega
      have HOB : Hid (numsB (kn : Int) (-1) (X.take (n + 1)) = numsB (kn : Int) (-1) (X.take n) ++ oneB (kn : Int) (-1) (X.getD n 0)) := by show _ = _; rw [HTN.out, numsB_snoc]
      have HFT : Hid (fitE (kn : Int) (-1) (X.getD n 0) → ∀ xx ∈ X.take (n + 1), fitE (kn : Int) (-1) xx) := fun hh xx hx => by
       rw [HTN.out] at hx
       rcases List.mem_append.1 hx with hx | hx
       ·exact HFN.out xx hx
       ·rw [List.mem_singleton] at hx; rw [hx]; exact hh
      have HBD : Hid (¬ fitE (kn : Int) (-1) (X.getD n 0) → fitB c b o r l = false) := fun hh => HNJ.out _ HXX.out hh
      have HCA : Hid (BH ++ numsB (kn : Int) (-1) (X.take (n + 1)) = BH ++ numsB (kn : Int) (-1) (X.take n) ++ oneB (kn : Int) (-1) (X.getD n 0)) := by show _ = _; rw [HOB.out, List.append_assoc]
      clear HTN HOB HFN
      generalize BH ++ numsB (kn : Int) (-1) (X.take n) = BN at *
      generalize X.getD n 0 = xv at *
      have hxv := HSM.out
      obtain ⟨r3, r1, x2⟩ := HCL.out _ _ _ HXn
      have HOE : Hid (oneB (kn : Int) (-1) xv = rcwB xv (kn : Int)) := by show _ = _; unfold oneB; rw [if_pos rfl]
      have hre2 : rcwE xv (kn : Int) = 0 ∨ rcwE xv (kn : Int) = 11 := by unfold rcwE; split; exact .inl rfl; exact .inr rfl
      rcases hre2 with hre | hre
      ·have KR : Hid (∀ wx, Hid (XS w c (some ⟨b1, o1, none⟩) pc (some ⟨b2, o2, none⟩) ec y an (BN) wx) → Calls Tryz.prog 197 #[.pointer (some ⟨y, 0, none⟩), .int .i64 xv, .int .i64 (kn : Int)] wx fun e w' => e = .returned (.int .i64 0) ∧ ∃ ao', Hid (XS w c (some ⟨b1, o1, none⟩) pc (some ⟨b2, o2, none⟩) ec y ao' (BN ++ rcwB xv (kn : Int)) w')) := fun wx hx => (xric_all wx an BN y xv (kn : Int) (by omega) (by omega) (by omega) hx.out.xw).mono fun e w' hh => by
        obtain ⟨h1, ao', h2, h3, h4⟩ := hh
        exact ⟨by rw [h1, hre], ao', hx.out.put h2 h3 h4⟩
       have HD : Hid (XS w c (some ⟨b1, o1, none⟩) pc (some ⟨b2, o2, none⟩) ec y an (BN) wr.drew) := HXn.out.drew
       clear HXn r3 r1 x2
       generalize hqq : f + n = q at *
       have hq0 : (0 : Int) ≤ (q : Int) := by omega
       have hq1 : (q : Int) < (l.length : Int) := by omega
       go_wp2_with fail
       go_region_held3 (fun wx => wx.cell? ⟨bl, ol + q, none⟩ = some (.int .i64 xv) ∧ wx.cell? ⟨b1, o1 + j, none⟩ = some (.int .i64 (kn : Int)) ∧ wx.cell? ⟨w.heap.size, 2, none⟩ = some (.slice (some ⟨b1, o1, none⟩) c.P.length pc)) (exact HCL.out _ _ _ (by assumption))
        ((go_at_call 197; refine (KR.out _ (by assumption)).mono ?_; rintro e w8 ⟨rfl, a8, h8⟩))
       go_wp2_with fail
       go_roundw
       case rel => exact ⟨n + 1, a8, by omega, by go_num, HFT.out (by unfold fitE; rw [if_pos rfl]; exact hre), by rw [HCA.out, HOE.out]; exact h8.out⟩
       case measure => simp [intOf]; omega
      ·have KR : Hid (∀ wx, Hid (XS w c (some ⟨b1, o1, none⟩) pc (some ⟨b2, o2, none⟩) ec y an (BN) wx) → Calls Tryz.prog 197 #[.pointer (some ⟨y, 0, none⟩), .int .i64 xv, .int .i64 (kn : Int)] wx fun e w' => e = .returned (.int .i64 11) ∧ ∃ ao', Hid (XS w c (some ⟨b1, o1, none⟩) pc (some ⟨b2, o2, none⟩) ec y ao' (BN ++ rcwB xv (kn : Int)) w')) := fun wx hx => (xric_all wx an BN y xv (kn : Int) (by omega) (by omega) (by omega) hx.out.xw).mono fun e w' hh => by
        obtain ⟨h1, ao', h2, h3, h4⟩ := hh
        exact ⟨by rw [h1, hre], ao', hx.out.put h2 h3 h4⟩
       have HD : Hid (XS w c (some ⟨b1, o1, none⟩) pc (some ⟨b2, o2, none⟩) ec y an (BN) wr.drew) := HXn.out.drew
       clear HXn r3 r1 x2
       generalize hqq : f + n = q at *
       have hq0 : (0 : Int) ≤ (q : Int) := by omega
       have hq1 : (q : Int) < (l.length : Int) := by omega
       go_wp2_with fail
       go_region_held3 (fun wx => wx.cell? ⟨bl, ol + q, none⟩ = some (.int .i64 xv) ∧ wx.cell? ⟨b1, o1 + j, none⟩ = some (.int .i64 (kn : Int)) ∧ wx.cell? ⟨w.heap.size, 2, none⟩ = some (.slice (some ⟨b1, o1, none⟩) c.P.length pc)) (exact HCL.out _ _ _ (by assumption))
        ((go_at_call 197; refine (KR.out _ (by assumption)).mono ?_; rintro e w8 ⟨rfl, a8, h8⟩))
       have HZ : Hid (fitB c b o r l = false) := HBD.out (fun hh => by unfold fitE at hh; rw [if_pos rfl, hre] at hh; cases hh)
       go_wp2_with fail
       go_ret
       rw [HZ.out]
       exact XEnd.no HW.out h8.out.below
     ·have HNX : Hid (X.take n = X) := List.take_of_length_le (by omega)
      have hfe : f + n = f' := by omega
      go_wp2_with fail
      go_roundw
      case rel =>
       refine ⟨j + 1, an, by omega, by go_num, HNEXT.out (by have := HFN.out; rw [HNX.out] at this; exact this), ?_⟩
       have hh := HXn.out
       rw [HNX.out] at hh
       rw [HPS.out]
       exact hh
      case measure => simp [intOf]; omega
   ·obtain ⟨en, rfl⟩ : ∃ n : Nat, ee = n := ⟨ee.toNat, by omega⟩
    have HHB : Hid (headB c.m 0 (en : Int) = putB (15 + 16 * c.m) (4 + c.m) ++ putB (en : Int) 5) := by show _ = _; unfold headB; rw [if_neg (by omega)]
    have kp := xput_all w3 aj BJ y (15 + 16 * c.m) (4 + c.m) (by omega) (by omega) (by omega) HX3.out.xw
    have hp4 : (2 : Int) ^ (4 + c.m).toNat = 16 + 16 * c.m := by
     rcases (show c.m = 0 ∨ c.m = 1 by omega) with e | e <;> rw [e] <;> rfl
    have hsb : (16 : Int) + 16 * c.m - 1 = 15 + 16 * c.m := by omega
    go_wp2_with fail
    refine kp.mono ?_
    rintro e w4 ⟨rfl, a4', hw4, hs4, hv4⟩
    have HX4 : Hid (XS w c (some ⟨b1, o1, none⟩) pc (some ⟨b2, o2, none⟩) ec y a4' (BJ ++ putB (15 + 16 * c.m) (4 + c.m)) w4) := HX3.out.put hw4 hs4 hv4
    clear hw4 hs4 hv4 kp z0 z1 z2 z3 r1 r2 HX3 hp4 hsb
    have kp := xput_all w4 a4' (BJ ++ putB (15 + 16 * c.m) (4 + c.m)) y (en : Int) 5 (by omega) (by omega) (by rw [List.length_append]; have := putB_short (15 + 16 * c.m) (4 + c.m) (by omega); omega) HX4.out.xw
    go_wp2_with fail
    refine kp.mono ?_
    rintro e w5 ⟨rfl, ah, hw4, hs4, hv4⟩
    have HXh : Hid (XS w c (some ⟨b1, o1, none⟩) pc (some ⟨b2, o2, none⟩) ec y ah (BJ ++ headB c.m 0 (en : Int)) w5) := by
     rw [HHB.out, ← List.append_assoc]
     exact HX4.out.put hw4 hs4 hv4
    clear hw4 hs4 hv4 kp HX4 HHB
    have hbh : (BJ ++ headB c.m 0 (en : Int)).length ≤ 1400000000000 := by rw [List.length_append]; omega
    generalize BJ ++ headB c.m 0 (en : Int) = BH at *
    go_wp2_with fail
    by_cases hz : en = 0
    ·subst hz
     go_loopw [18, 19, 99, 113, 123] (fun s18 s19 s99 s113 s123 wz => ∃ (n : Nat) (an : Option Addr), n ≤ X.length ∧ s18 = .int .i64 ((f + n : Nat) : Int) ∧ (∀ xx ∈ X.take n, fitE 0 ((0 : Nat) : Int) xx) ∧ XS w c (some ⟨b1, o1, none⟩) pc (some ⟨b2, o2, none⟩) ec y an (BH ++ numsB 0 ((0 : Nat) : Int) (X.take n)) wz) (fun s18 _ _ _ _ _ => f' - (intOf s18).toNat)
     case atStart => exact ⟨0, ah, Nat.zero_le _, rfl, fun xx hx => absurd hx (by simp), by rw [List.take_zero, numsB_nil, List.append_nil]; exact HXh.out⟩
     case round =>
      clear HXh
      obtain ⟨n, an, hn, rfl, hfn, hxn⟩ := hrel
      have HXn : Hid (XS w c (some ⟨b1, o1, none⟩) pc (some ⟨b2, o2, none⟩) ec y an (BH ++ numsB 0 ((0 : Nat) : Int) (X.take n)) wr) := hxn
      have HFN : Hid (∀ xx ∈ X.take n, fitE 0 ((0 : Nat) : Int) xx) := hfn
      clear hxn hfn
      by_cases hnl : n < X.length
      ·have hfl : f + n < l.length := by omega
       obtain ⟨bl, ol, rfl⟩ := HLA.out hfl
       have HXX : Hid (X.getD n 0 ∈ X) := getD_mem X n hnl
       have HSM : Hid (-9223372036854775808 ≤ X.getD n 0 ∧ X.getD n 0 ≤ 9223372036854775807) := HRG.out _ HXX.out
       have HTN : Hid (X.take (n + 1) = X.take n ++ [X.getD n 0]) := take_snoc X n hnl
       have HCL : Hid (∀ aw Bw wx, Hid (XS w c (some ⟨b1, o1, none⟩) pc (some ⟨b2, o2, none⟩) ec y aw (Bw) wx) → wx.cell? ⟨bl, ol + (f + n), none⟩ = some (.int .i64 (X.getD n 0)) ∧ wx.cell? ⟨b1, o1 + j, none⟩ = some (.int .i64 0) ∧ wx.cell? ⟨w.heap.size, 2, none⟩ = some (.slice (some ⟨b1, o1, none⟩) c.P.length pc)) := fun aw Bw wx hx => ⟨by rw [HXG.out n hnl]; exact (HL.out.below hx.out.below).get (f + n) hfl, (HCC.out wx hx.out.below).1, by have := hx.out.cells.2.2.1; exact this⟩
       have hln : (BH ++ numsB 0 ((0 : Nat) : Int) (X.take n)).length ≤ 3000000000000 := by
        rw [List.length_append]
        have := numsB_len 0 ((0 : Nat) : Int) (X.take n)
        rw [List.length_take] at this
        have : 17000000 * min n X.length ≤ 17000000 * 65535 := Nat.mul_le_mul_left _ (by omega)
        omega
       have HOB : Hid (numsB 0 ((0 : Nat) : Int) (X.take (n + 1)) = numsB 0 ((0 : Nat) : Int) (X.take n) ++ oneB 0 ((0 : Nat) : Int) (X.getD n 0)) := by show _ = _; rw [HTN.out, numsB_snoc]
       have HFT : Hid (fitE 0 ((0 : Nat) : Int) (X.getD n 0) → ∀ xx ∈ X.take (n + 1), fitE 0 ((0 : Nat) : Int) xx) := fun hh xx hx => by
        rw [HTN.out] at hx
        rcases List.mem_append.1 hx with hx | hx
        ·exact HFN.out xx hx
        ·rw [List.mem_singleton] at hx; rw [hx]; exact hh
       have HBD : Hid (¬ fitE 0 ((0 : Nat) : Int) (X.getD n 0) → fitB c b o r l = false) := fun hh => HNJ.out _ HXX.out hh
       have HCA : Hid (BH ++ numsB 0 ((0 : Nat) : Int) (X.take (n + 1)) = BH ++ numsB 0 ((0 : Nat) : Int) (X.take n) ++ oneB 0 ((0 : Nat) : Int) (X.getD n 0)) := by show _ = _; rw [HOB.out, List.append_assoc]
       clear HTN HOB HFN
       generalize BH ++ numsB 0 ((0 : Nat) : Int) (X.take n) = BN at *
       generalize X.getD n 0 = xv at *
       have hxv := HSM.out
       obtain ⟨r3, r1, x2⟩ := HCL.out _ _ _ HXn
       have HOE : Hid (oneB 0 ((0 : Nat) : Int) xv = []) := by show _ = _; unfold oneB; rw [if_neg (by decide), if_pos (show ((0 : Nat) : Int) = 0 from rfl)]
       have HFI : Hid (fitE 0 ((0 : Nat) : Int) xv ↔ xv = 0) := by show _ ↔ _; unfold fitE; rw [if_neg (by decide), if_pos (show ((0 : Nat) : Int) = 0 from rfl)]
       by_cases hz : xv = 0
       ·have HZ : Hid (xv = 0) := hz
        have hbz : (xv != 0) = false := by rw [hz]; rfl
        clear hz
        go_wp2_with fail
        go_roundw
        case rel => exact ⟨n + 1, an, by omega, by go_num, HFT.out (HFI.out.2 HZ.out), by rw [HCA.out, HOE.out, List.append_nil]; exact HXn.out⟩
        case measure => simp [intOf]; omega
       ·have HZ : Hid (fitB c b o r l = false) := HBD.out (fun hh => hz (HFI.out.1 hh))
        have hbz : (xv != 0) = true := by rw [bne_iff_ne]; exact hz
        clear hz
        go_wp2_with fail
        go_ret
        rw [HZ.out]
        exact XEnd.no HW.out HXn.out.below
      ·have HNX : Hid (X.take n = X) := List.take_of_length_le (by omega)
       have hfe : f + n = f' := by omega
       go_wp2_with fail
       go_roundw
       case rel =>
        refine ⟨j + 1, an, by omega, by go_num, HNEXT.out (by have := HFN.out; rw [HNX.out] at this; exact this), ?_⟩
        have hh := HXn.out
        rw [HNX.out] at hh
        rw [HPS.out]
        exact hh
       case measure => simp [intOf]; omega
    ·skip
     go_loopw [18, 19, 99, 113, 123] (fun s18 s19 s99 s113 s123 wz => ∃ (n : Nat) (an : Option Addr), n ≤ X.length ∧ s18 = .int .i64 ((f + n : Nat) : Int) ∧ (∀ xx ∈ X.take n, fitE 0 (en : Int) xx) ∧ XS w c (some ⟨b1, o1, none⟩) pc (some ⟨b2, o2, none⟩) ec y an (BH ++ numsB 0 (en : Int) (X.take n)) wz) (fun s18 _ _ _ _ _ => f' - (intOf s18).toNat)
     case atStart => exact ⟨0, ah, Nat.zero_le _, rfl, fun xx hx => absurd hx (by simp), by rw [List.take_zero, numsB_nil, List.append_nil]; exact HXh.out⟩
     case round =>
      clear HXh
      obtain ⟨n, an, hn, rfl, hfn, hxn⟩ := hrel
      have HXn : Hid (XS w c (some ⟨b1, o1, none⟩) pc (some ⟨b2, o2, none⟩) ec y an (BH ++ numsB 0 (en : Int) (X.take n)) wr) := hxn
      have HFN : Hid (∀ xx ∈ X.take n, fitE 0 (en : Int) xx) := hfn
      clear hxn hfn
      by_cases hnl : n < X.length
      ·have hfl : f + n < l.length := by omega
       obtain ⟨bl, ol, rfl⟩ := HLA.out hfl
       have HXX : Hid (X.getD n 0 ∈ X) := getD_mem X n hnl
       have HSM : Hid (-9223372036854775808 ≤ X.getD n 0 ∧ X.getD n 0 ≤ 9223372036854775807) := HRG.out _ HXX.out
       have HTN : Hid (X.take (n + 1) = X.take n ++ [X.getD n 0]) := take_snoc X n hnl
       have HCL : Hid (∀ aw Bw wx, Hid (XS w c (some ⟨b1, o1, none⟩) pc (some ⟨b2, o2, none⟩) ec y aw (Bw) wx) → wx.cell? ⟨bl, ol + (f + n), none⟩ = some (.int .i64 (X.getD n 0)) ∧ wx.cell? ⟨b1, o1 + j, none⟩ = some (.int .i64 0) ∧ wx.cell? ⟨w.heap.size, 2, none⟩ = some (.slice (some ⟨b1, o1, none⟩) c.P.length pc)) := fun aw Bw wx hx => ⟨by rw [HXG.out n hnl]; exact (HL.out.below hx.out.below).get (f + n) hfl, (HCC.out wx hx.out.below).1, by have := hx.out.cells.2.2.1; exact this⟩
       have hln : (BH ++ numsB 0 (en : Int) (X.take n)).length ≤ 3000000000000 := by
        rw [List.length_append]
        have := numsB_len 0 (en : Int) (X.take n)
        rw [List.length_take] at this
        have : 17000000 * min n X.length ≤ 17000000 * 65535 := Nat.mul_le_mul_left _ (by omega)
        omega
       have HOB : Hid (numsB 0 (en : Int) (X.take (n + 1)) = numsB 0 (en : Int) (X.take n) ++ oneB 0 (en : Int) (X.getD n 0)) := by show _ = _; rw [HTN.out, numsB_snoc]
       have HFT : Hid (fitE 0 (en : Int) (X.getD n 0) → ∀ xx ∈ X.take (n + 1), fitE 0 (en : Int) xx) := fun hh xx hx => by
        rw [HTN.out] at hx
        rcases List.mem_append.1 hx with hx | hx
        ·exact HFN.out xx hx
        ·rw [List.mem_singleton] at hx; rw [hx]; exact hh
       have HBD : Hid (¬ fitE 0 (en : Int) (X.getD n 0) → fitB c b o r l = false) := fun hh => HNJ.out _ HXX.out hh
       have HCA : Hid (BH ++ numsB 0 (en : Int) (X.take (n + 1)) = BH ++ numsB 0 (en : Int) (X.take n) ++ oneB 0 (en : Int) (X.getD n 0)) := by show _ = _; rw [HOB.out, List.append_assoc]
       clear HTN HOB HFN
       generalize BH ++ numsB 0 (en : Int) (X.take n) = BN at *
       generalize X.getD n 0 = xv at *
       have hxv := HSM.out
       obtain ⟨r3, r1, x2⟩ := HCL.out _ _ _ HXn
       have HOE : Hid (oneB 0 (en : Int) xv = sigB xv (en : Int)) := by show _ = _; unfold oneB; rw [if_neg (by omega), if_neg (by omega)]
       have HFI : Hid (fitE 0 (en : Int) xv ↔ sigE xv (en : Int) = 0) := by show _ ↔ _; unfold fitE; rw [if_neg (by omega), if_neg (by omega)]
       have kr := xsig_all wr an BN y xv (en : Int) (by omega) (by omega) (by omega) HXn.out.xw
       by_cases hz : sigE xv (en : Int) = 0
       ·rw [hz] at kr
        have HZ : Hid (sigE xv (en : Int) = 0) := hz
        clear hz
        go_wp2_with fail
        refine kr.mono ?_
        rintro e w8 ⟨rfl, a8, h8, h9, h10⟩
        have HX8 : Hid (XS w c (some ⟨b1, o1, none⟩) pc (some ⟨b2, o2, none⟩) ec y a8 (BN ++ sigB xv (en : Int)) w8) := HXn.out.put h8 h9 h10
        clear h8 h9 h10 r3 r1 x2 kr
        go_wp2_with fail
        go_roundw
        case rel => exact ⟨n + 1, a8, by omega, by go_num, HFT.out (HFI.out.2 HZ.out), by rw [HCA.out, HOE.out]; exact HX8.out⟩
        case measure => simp [intOf]; omega
       ·have hz11 : sigE xv (en : Int) = 11 := by
         unfold sigE at hz ⊢
         split at hz
         ·exact absurd rfl hz
         ·rename_i hno; rw [if_neg hno]
        rw [hz11] at kr
        have HZ : Hid (fitB c b o r l = false) := HBD.out (fun hh => hz (HFI.out.1 hh))
        clear hz hz11
        go_wp2_with fail
        refine kr.mono ?_
        rintro e w8 ⟨rfl, a8, h8, h9, h10⟩
        have HX8 : Hid (XS w c (some ⟨b1, o1, none⟩) pc (some ⟨b2, o2, none⟩) ec y a8 (BN ++ sigB xv (en : Int)) w8) := HXn.out.put h8 h9 h10
        clear h8 h9 h10 r3 r1 x2 kr
        go_wp2_with fail
        go_ret
        rw [HZ.out]
        exact XEnd.no HW.out HX8.out.below
      ·have HNX : Hid (X.take n = X) := List.take_of_length_le (by omega)
       have hfe : f + n = f' := by omega
       go_wp2_with fail
       go_roundw
       case rel =>
        refine ⟨j + 1, an, by omega, by go_num, HNEXT.out (by have := HFN.out; rw [HNX.out] at this; exact this), ?_⟩
        have hh := HXn.out
        rw [HNX.out] at hh
        rw [HPS.out]
        exact hh
       case measure => simp [intOf]; omega
  ·have HJN : Hid (j = N) := by show _ = _; omega
   have HTR : Hid (fitB c b o r l = true) := HYS.out (by have := HFJ.out; rw [HJN.out] at this; exact this)
   have hB6 : 0 < (putB c.m 2 ++ putB c.o 4 ++ partsB c b o r l j).length := by
    have h2 : (putB c.m 2).length = 2 := by
     unfold putB
     rw [if_pos ⟨by omega, by omega, by rcases (show c.m = 0 ∨ c.m = 1 by omega) with e | e <;> rw [e] <;> decide⟩, bitsOf_length]
     rfl
    simp only [List.length_append, h2]
    omega
   have hBJ := HLB.out j hj
   have HEJ : Hid (encB c b r l = putB c.m 2 ++ putB c.o 4 ++ partsB c b o r l j) := by show _ = _; rw [HEB.out, HJN.out]
   clear HRW HNO HPB HKP HLB HFJ HEB
   generalize putB c.m 2 ++ putB c.o 4 ++ partsB c b o r l j = BJ at *
   obtain ⟨cx, hXx⟩ : XwB wr.drew x ao B := HW.out.below (HX.out.below.drew)
   obtain ⟨cy, hXy⟩ := HX.out.drew.xw
   obtain ⟨ao2, cap2, hv2, _, _, hn2, hs2⟩ := owns_shape hXy.own
   cases hv2
   obtain ⟨g, hg⟩ : ∃ g, aj = some ⟨g, 0, none⟩ := by
    cases haj : aj with
    | none => have := (hn2 haj).1; omega
    | some a => exact ⟨a.block, by rw [(hs2 a haj).1]⟩
   subst hg
   have c0 : wr.drew.cell? ⟨x, 0, none⟩ = some (.slice ao B.length cx) := hXx.c0
   have c1 : wr.drew.cell? ⟨y, 0, none⟩ = some (.slice (some ⟨g, 0, none⟩) BJ.length cy) := hXy.c0
   have HXx : Hid (Xw wr.drew x ao cx B) := hXx
   have HXy : Hid (Xw wr.drew y (some ⟨g, 0, none⟩) cy BJ) := hXy
   have HNW : Hid (∀ k u, (byteVals BJ)[k]? = some u → wr.drew.cell? ((⟨g, 0, none⟩ : Addr).add k) = some u) := fun k u hk => by
    have hk2 : k < (byteVals BJ).length := by
     rcases Nat.lt_or_ge k (byteVals BJ).length with h1 | h1
     ·exact h1
     ·rw [List.getElem?_eq_none h1] at hk; cases hk
    rw [byteVals_length] at hk2
    have hh := HXy.out.own.cellAt k (by omega)
    rw [Addr.add_mid, Nat.zero_add, hh, hk]
   have HI5 : Hid (∃ i0, Tryz.prog.info? 5 = some i0 ∧ i0.zero = some (.int .u8 0) ∧ i0.size = 1 ∧ i0.bytes = 1) := by
    have h := Tryz.info5
    cases hq : Tryz.prog.info? 5 with
    | none => rw [hq] at h; cases h
    | some i =>
     rw [hq] at h
     simp only [Option.map_some, Option.some.injEq, Prod.mk.injEq] at h
     exact ⟨i, rfl, h.1, h.2.1, h.2.2⟩
   obtain ⟨i0, hi0, hz0, hz1, hz2⟩ := HI5.out
   have HI : Hid (Tryz.prog.info? 5 = some i0 ∧ i0.zero = some (.int .u8 0) ∧ i0.size = 1 ∧ i0.bytes = 1) := ⟨hi0, hz0, hz1, hz2⟩
   have HGB : Hid (∀ w6 : World, Hid (wr.drew.grownBy w6 (blockOf ao)) → w6.cell? ⟨x, 0, none⟩ = some (.slice ao B.length cx) ∧ w6.frozen? ⟨x, 0, none⟩ = false) := fun w6 hg => by
    have hb := hg.out.block x HXx.out.lt (fun e => HXx.out.ne e.symm)
    exact ⟨by rw [World.cell?_of_block (w := wr.drew) hb]; exact HXx.out.c0, by rw [World.frozen?_of_block (w := wr.drew) hb]; exact HXx.out.f 0⟩
   clear hXx hXy hn2 hs2 hi0 hz0 hz1 hz2 HI5
   obtain ⟨z0, z1, z2, z3⟩ := HX.out.cells
   go_wp2_with fail
   clear z0 z1 z2 z3
   go_region_law ((refine step_append_mine _ rfl (.tmp 135) (.tmp 139) 103 rfl 5 i0 (.int .u8 0) 1 Tryz.underlying103 HI.out.1 HI.out.2.1 HI.out.2.2.1 HI.out.2.2.2 rfl ao cx B.length (byteVals B) (by simp [Act.eval, Act.put]) HXx.out.own ⟨g, 0, none⟩ BJ.length cy (byteVals BJ) (by simp [Act.eval, Act.put]) (byteVals_length _) HNW.out (byteVals_one _) (by simp only [maxLen]; omega) (by omega) ?_; intro ao6 cap6 w6 hown hgr hmv; obtain ⟨k0, k1⟩ := HGB.out w6 hgr))
   all_goals go_wp2_with fail
   all_goals go_ret
   all_goals rw [HTR.out, HEJ.out]
   all_goals refine ⟨rfl, ao6, ?_, ?_, ?_⟩
   all_goals first
    | exact ⟨cap6, HXx.out.setSlice (B' := B ++ BJ) hgr.out hmv.out _ (by rw [List.length_append]) (by rw [byteVals_append]; exact hown.out)⟩
    | exact ((Stays.of_below HX.out.below.drew _).trans (Stays.of_grown hgr.out (S := foot x ao) (fun k hk => Or.inr hk)) (fun _ _ h => h)).setCell _ _ (Or.inl (Or.inl rfl))
    | exact (Moved.refl w.heap.size ao).trans hmv.out HX.out.below.size
end Go.Proofs.YthgpleelpeacjaaGreatDoor
