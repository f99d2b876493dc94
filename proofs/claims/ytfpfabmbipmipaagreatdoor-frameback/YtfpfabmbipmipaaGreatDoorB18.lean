/- Own text. -/
import Derived.Shelf.Abstract
import Derived.Test.YtfpfabmbipmipaaGreatDoorB17
import Derived.Laws.CopyRow
import Derived.Laws.IdiomCopy
import Derived.Laws.OwnMore
set_option linter.unusedSimpArgs false
set_option linter.unusedVariables false
set_option maxRecDepth 20000
set_option maxHeartbeats 12800000
namespace Go.Proofs.YtfpfabmbipmipaaGreatDoor
open Go.RowKit
theorem qleft_spec (C l : List Int) (ca la : OA) (cc lc sh b : Nat) (hsh : sh <= 31) (hCl : C.length <= l.length) (hlc : l.length <= lc) (w : World) (hL : Lin b C ca cc sh w) (hl : IntsAt w la l) :
  Calls Tryz.prog 204 #[linV b, .int .i64 (C.length : Int), .slice la l.length lc] w fun e w' => ∃ ga gc, e = .returned (.slice ga (leftN C sh l (l.length - C.length)).length gc) /\ Made w ga gc (leftN C sh l (l.length - C.length)) w' := by
 have h1 := hl.len
 have HL := kQ hl
 have HLI := kQ hL
 have hmk := make_ints (l.length - C.length) (by omega)
 have hsb : (l.length : Int) - (C.length : Int) = ((l.length - C.length : Nat) : Int) := by omega
 have HLL : Hid ((leftN C sh l (l.length - C.length)).length = l.length - C.length) := leftN_len _ _ _ _
 have HRG : Hid (Rng (leftN C sh l (l.length - C.length))) := leftN_rng _ _ _ _
 have HAT : Hid (∀ i, i < l.length - C.length -> (leftN C sh l (l.length - C.length)).getD i 0 = wrap64 (l.getD (i + C.length) 0 - foreN C sh l (i + C.length))) := fun i hi => by
  rw [leftN_at C sh l _ i hi, Nat.add_comm]
 have HM : Hid (∀ L : List Int, L.length = l.length - C.length -> Fill w w.heap.size L 0 (w.alloc (.cells (madeCells #[.int .i64 0] (l.length - C.length)) 3))) := fun L hLl => by
  have := Fill.made w w (Below.refl _ _) L
  rw [hLl] at this; exact this
 have KC : Hid (∀ i, i + C.length <= l.length -> ∀ b1 o1, la = some ⟨b1, o1, none⟩ -> ∀ pc wx, Lo w wx -> Calls Tryz.prog 227 (#[.slice (some ⟨b1, o1 + i, none⟩) C.length pc] ++ #[.pointer (some ⟨b, 0, none⟩), .pointer (some ⟨b + 1, 0, none⟩)]) wx fun e w' => e = .returned (.int .i64 (foreN C sh l (i + C.length))) /\ w' = wx) := fun i hi b1 o1 hla pc wx hbx => by
  have hpl : ((l.drop i).take C.length).length = C.length := by rw [List.length_take, List.length_drop]; omega
  have hpt := hl.part i C.length hi (some ⟨b1, o1 + i, none⟩) (fun b off e _ => by rw [hla] at e; cases e; rfl)
  have hh := qclos_spec C ((l.drop i).take C.length) ca (some ⟨b1, o1 + i, none⟩) cc pc sh b hsh (by rw [hpl]; exact Nat.le_refl _) wx (hL.below hbx) (hpt.below hbx)
  rw [hpl, foreN_part] at hh
  exact hh
 clear hl hL
 generalize leftN C sh l (l.length - C.length) = L at *
 generalize hn : l.length - C.length = n at *
 generalize hq : C.length = q at *
 have HNQ : Hid (n + q = l.length) := by show _ = _; omega
 clear hn hq hCl
 go_enter Tryz.func204, Tryz.ntmps204
 go_wp2_with fail
 generalize hwa : w.alloc _ = wa at *
 have HA := kQ (HM.out L HLL.out)
 clear hwa HM hmk
 go_loopw [8, 16] (fun s8 s16 wr => ∃ i : Nat, i <= n /\ s16 = .int .i64 (i : Int) /\ Fill w w.heap.size L i wr) (fun _ s16 _ => n - (intOf s16).toNat)
 case atStart => exact ⟨0, Nat.zero_le _, rfl, HA.out⟩
 case round =>
  clear HA
  obtain ⟨i, hi, rfl, hf⟩ := hrel
  have HA := kQ hf
  clear hf
  by_cases hlt : i < n
  ·obtain ⟨b1, o1, rfl, q1⟩ := HL.out.at (i + q) (by have := HNQ.out; omega)
   have HQ1 : Hid (∀ wx, Lo w wx -> wx.cell? ⟨b1, o1 + (i + q), none⟩ = some (.int .i64 (l.getD (i + q) 0))) := fun wx hh => q1 wx hh
   have HK : Hid (∀ pc wx, Lo w wx -> Calls Tryz.prog 227 (#[.slice (some ⟨b1, o1 + i, none⟩) q pc] ++ #[.pointer (some ⟨b, 0, none⟩), .pointer (some ⟨b + 1, 0, none⟩)]) wx fun e w' => e = .returned (.int .i64 (foreN C sh l (i + q))) /\ w' = wx) := fun pc wx hh => KC.out i (by have := HNQ.out; omega) b1 o1 rfl pc wx hh
   have hv0 := kQ ((HAT.out i hlt).symm)
   have HNX : Hid (Fill w w.heap.size L (i + 1) (wr.drew.setCell ⟨w.heap.size, i, none⟩ (.int .i64 (wrap64 (l.getD (i + q) 0 - foreN C sh l (i + q)))))) := by rw [hv0.out]; exact HA.out.drew.set (by rw [HLL.out]; exact hlt)
   have HD := kQ HA.out.drew
   have hpl : i + q < l.length := by have := HNQ.out; omega
   obtain ⟨p, hp⟩ : ∃ p : Nat, p = i + q := ⟨_, rfl⟩
   have hpi : (i : Int) + (q : Int) = (p : Int) := by omega
   have hpq : p - i = q := by omega
   rw [<- hp] at HQ1 HK HNX hpl q1
   have hip : i <= p := by omega
   have hpl2 : (p : Int) < (l.length : Int) := by omega
   have hpc2 : (p : Int) <= (lc : Int) := by omega
   have hip2 : (i : Int) <= (p : Int) := by omega
   have hpi3 : (p : Int) - (i : Int) = (q : Int) := by omega
   have hwp : IntKind.i64.wrap (p : Int) = (p : Int) := by rw [IntKind.wrap_i64]; omega
   have hne : ¬ lc = i := by omega
   have HPE := kQ hp
   clear hp
   have HCL : Hid (∀ wx, Hid (Fill w w.heap.size L i wx) -> (∃ v : Int, wx.cell? ⟨w.heap.size, i, none⟩ = some (.int .i64 v)) /\ wx.frozen? ⟨w.heap.size, i, none⟩ = false) := fun wx hh => ⟨⟨_, hh.out.cell i (by rw [HLL.out]; exact hlt)⟩, hh.out.frozen _⟩
   clear q1 HA hv0
   generalize l.getD p 0 = x at *
   generalize foreN C sh l p = fo at *
   go_wp2_with fail
   refine wp_region_held_drew (S := fun wx => Lo w wx) (by kernel_rfl) HD.out.below (fun hS => ?_)
   refine vQ 0 (.slice (some ⟨w.heap.size, 0, none⟩) n n) hS ?_
   simp only [SL]
   refine vQ 1 (.int .i64 (i : Int)) hS ?_
   simp only [SL]
   refine vQ 2 (.slice (some ⟨b1, o1, none⟩) l.length lc) hS ?_
   simp only [SL]
   refine vQ 3 (.int .i64 (i : Int)) hS ?_
   simp only [SL]
   refine vQ 4 (.int .i64 (q : Int)) hS ?_
   simp only [SL]
   refine vQ 5 (.int .i64 (p : Int)) hS ?_
   simp only [SL]
   refine vQ 6 (.pointer (some ⟨b1, o1 + p, none⟩)) hS ?_
   simp only [SL]
   refine uQ 7 (.int .i64 x) rfl hS (Or.inl ⟨by rfl, fun w hSw => by have r1 := HQ1.out w hSw; go_simp⟩) ?_
   simp only [SL]
   refine vQ 8 (linV b) hS ?_
   simp only [SL]
   refine vQ 9 (.slice (some ⟨b1, o1, none⟩) l.length lc) hS ?_
   simp only [SL]
   refine vQ 10 (.int .i64 (i : Int)) hS ?_
   simp only [SL]
   refine vQ 11 (.int .i64 (i : Int)) hS ?_
   simp only [SL]
   refine vQ 12 (.int .i64 (q : Int)) hS ?_
   simp only [SL]
   refine vQ 13 (.int .i64 (p : Int)) hS ?_
   simp only [SL]
   refine vQ 14 (.slice (some ⟨b1, o1 + i, none⟩) q (lc - i)) hS ?_
   simp only [SL]
   refine wpAnyH_ready (rs := [15]) (by kernel_rfl) (by simp) ?_
   refine AllReadyH.cons rfl (fun K hK => ?_) AllReadyH.nil
   go_simp
   refine (HK.out _ _ hS).mono ?_
   rintro e w5 ⟨rfl, hw5⟩
   subst hw5
   obtain ⟨⟨v5, y5⟩, z5⟩ := HCL.out _ HD
   refine hK.out _ _ hS (fun hS5 => ?_)
   clear hK K
   try simp only [SL]
   refine uQ 16 (.int .i64 (wrap64 (x - fo))) rfl hS5 (Or.inl ⟨by rfl, fun w hSw => by go_simp; exact wrap_is _⟩) ?_
   simp only [SL]
   refine vQ 17 (.pointer (some ⟨w.heap.size, i, none⟩)) hS5 ?_
   simp only [SL]
   refine wpAnyH_ready (rs := [18]) (by kernel_rfl) (by simp) ?_
   refine AllReadyH.cons rfl (fun K hK => ?_) AllReadyH.nil
   go_simp
   refine hK.out _ _ HNX.out.below (fun hS6 => ?_)
   clear hK K
   refine wpAnyH_done (by kernel_rfl) ?_ _
   go_wp2_with fail
   go_roundw
   case rel => exact ⟨i + 1, by omega, by go_num, HNX.out⟩
   case measure => simp [intOf]; omega
  ·have hin : i = n := by omega
   subst hin
   have HI : Hid (Made w (some ⟨w.heap.size, 0, none⟩) i L wr) := Made.of_fill (by rw [HLL.out]; exact HA.out) (by rw [HLL.out]; omega) (by rw [HLL.out]; omega) HRG.out
   clear HA
   go_wp2_with fail
   go_ret
   exact ⟨_, _, by rw [HLL.out]; rfl, HI.out⟩
theorem wpList_append_fits {P : Program} (w : World) {ops : Array Oper} {rest : List Oper} {o : Oper} {a : Act} {Q : Exit -> Act -> World -> Prop} (hgd : o.guard = none) (s x : Operand) (t : TypeId)
  (ho : o.op = .call { callee := .builtin .append, args := #[s, x], argTypes := #[t, t] })
  (base : Nat) (e : TypeId) (i : TypeInfo) (size : Nat) (ht : P.underlying t = some (.slice e)) (hi : P.info? e = some i) (hsize : i.size = size)
  (g n cap : Nat) (xs : List Value) (hs : a.eval s = .slice (some ⟨g, 0, none⟩) n cap) (hown : w.ownsRow base e size (.slice (some ⟨g, 0, none⟩) n cap) n xs)
  (ad : Addr) (m c : Nat) (news : List Value) (hx : a.eval x = .slice (some ad) m c) (hl : news.length = m * size) (hnews : ∀ j u, news[j]? = some u -> w.cell? (ad.add j) = some u) (h1 : ∀ u ∈ news, u.oneCell' = true)
  (hroom : n + m <= cap)
  (h : ∀ w', Hid (w'.ownsRow base e size (.slice (some ⟨g, 0, none⟩) (n + m) cap) (n + m) (xs ++ news)) -> Hid (w.grownBy w' (some g)) -> wpList P ops Q rest (a.put o.dst (.slice (some ⟨g, 0, none⟩) (n + m) cap)) w') : wpList P ops Q (o :: rest) a w := by
 refine wpList_plain hgd fun K hK => ?_
 obtain ⟨w', hrun, r1, r2⟩ := run_append_fits (P := P) w base t o.type e i size ht hi hsize g n cap xs hown ad m c news hl hnews h1 hroom
 unfold Oper.wp
 simp [execOp, ho, resolve, invoke, builtin, hs, hx, hrun, Result.andThen]
 exact hK _ _ (h w' r1 r2)
theorem make_room (m n : Nat) (hn : m + n <= 17592186044415) (w : World) : (Instr.makeSlice 56 (.int .i64 (m : Int)) (.int .i64 ((m + n : Nat) : Int))).run Tryz.prog w = .ok (.slice (some ⟨w.heap.size, 0, none⟩) m (m + n)) (w.alloc (.cells (madeCells #[.int .i64 0] (m + n)) 3)) := by
 obtain ⟨i, h1, h2, h3, h4⟩ := int_info
 have hh := run_make (P := Tryz.prog) w 56 3 i _ undI3 h1 h2 .i64 .i64 (m : Int) ((m + n : Nat) : Int) (by omega) (by omega) (by rw [h4]; omega) (by omega)
 rw [h3] at hh
 generalize m + n = c at *
 simpa [Value.cells] using hh
theorem made_copy (warm : List Int) (n : Nat) (wa : OA) (wc : Nat) (hn : warm.length + n <= 17592186044415) (w : World) (hw : IntsAt w wa warm) :
  ∃ w', (Builtin.copy_ #[56, 56] 3 #[.slice (some ⟨w.heap.size, 0, none⟩) warm.length (warm.length + n), .slice wa warm.length wc]).run Tryz.prog (w.alloc (.cells (madeCells #[.int .i64 0] (warm.length + n)) 3)) = .ok (goInt warm.length) w' /\ Out w (.slice (some ⟨w.heap.size, 0, none⟩) warm.length (warm.length + n)) warm w' := by
 have hs : (Tryz.prog.info? 3).map (·.size) = some 1 := by kernel_rfl
 have hmin : Nat.min warm.length warm.length = warm.length := Nat.min_self _
 have hB : Lo w (w.alloc (.cells (madeCells #[.int .i64 0] (warm.length + n)) 3)) := aQ
 have hW := hw.below hB
 have hg := heap_alloc_new w (.cells (madeCells #[.int .i64 0] (warm.length + n)) 3)
 have hsz : (madeCells #[.int .i64 0] (warm.length + n)).size = warm.length + n := size_madeCells _ _
 generalize madeCells #[.int .i64 0] (warm.length + n) = cur at *
 generalize w.alloc (.cells cur 3) = w1 at *
 by_cases h0 : warm.length = 0
 ·have hnil : warm = [] := List.eq_nil_of_length_eq_zero h0
  subst hnil
  refine ⟨w1, run_copy_none w1 56 56 3 3 _ _ 0 _ 0 wc undI3 hs rfl, ⟨⟨rfl, .inr ⟨w.heap.size, _, cur, rfl, Nat.le_refl _, hg, Nat.zero_le _, by unfold maxLen; omega, by rw [hsz]; omega, by simp [intsC]⟩⟩, hB⟩⟩
 ·obtain ⟨b, off, rfl⟩ := hW.addr (by omega)
  have hrun := run_copy_row (P := Tryz.prog) w1 56 56 3 3 w.heap.size 0 warm.length (warm.length + n) ⟨b, off, none⟩ warm.length wc cur 3 (intsC warm) undI3 hs hg (by rw [intsC_length, hmin]) (hW.news _ rfl) (by rw [intsC_length, hsz]; omega) (intsC_one warm)
  rw [intsC_length] at hrun
  refine ⟨_, hrun, ⟨⟨by rw [intsC_length]; omega, .inr ⟨w.heap.size, _, _, rfl, Nat.le_refl _, setRow_heap w1 w.heap.size cur _ 3 (0, 0) hg, by omega, by unfold maxLen; omega, ?_, ?_⟩⟩, ?_⟩⟩
  ·simp [intsC_length, hsz]
  ·have e : warm.length * 1 = (intsC warm).length := by rw [intsC_length]; omega
   rw [e]
   simp
  ·exact ⟨hB.os, hB.tape, hB.output, by rw [size_setRow]; exact hB.size, fun k hk => by rw [setRow_other _ _ _ _ (by omega)]; exact hB.block k hk⟩
theorem qfore_spec (C warm l : List Int) (ca wa la : OA) (cc wc lc sh b : Nat) (hsh : sh <= 31) (hCw : C.length = warm.length) (hw32 : warm.length <= 32) (hl9 : l.length <= 17592186043904) (w : World) (hL : Lin b C ca cc sh w) (hw : IntsAt w wa warm) (hl : IntsAt w la l) :
  Calls Tryz.prog 234 #[linV b, .slice wa warm.length wc, .slice la l.length lc] w fun e w' => ∃ ga gc, e = .returned (.slice ga (wholeN C sh warm l l.length).length gc) /\ Made w ga gc (wholeN C sh warm l l.length) w' := by
 obtain ⟨i3, h3a, h3b, h3c, h3d⟩ := int_info
 have hmk := make_room warm.length l.length (by omega)
 obtain ⟨w2, hcp, hout⟩ := made_copy warm l.length wa wc (by omega) w hw
 have HO0 := kQ hout
 have HL := kQ hl
 have HLI := kQ hL
 have HRG : Hid (∀ n, Rng (wholeN C sh warm l n)) := fun n => wholeN_rng C sh warm l hw.num n
 have HLN : Hid (∀ n, (wholeN C sh warm l n).length = warm.length + n) := fun n => wholeN_len C sh warm l n
 have HCQ := kQ hCw
 have hgi : goInt warm.length = .int .i64 (warm.length : Int) := rfl
 have hsum : (warm.length : Int) + (l.length : Int) = ((warm.length + l.length : Nat) : Int) := by omega
 have HSTEP : Hid (∀ i, wholeN C sh warm l (i + 1) = wholeN C sh warm l i ++ [wrap64 (l.getD i 0 + foreN C sh (wholeN C sh warm l i) (warm.length + i))]) := fun i => rfl
 have KC : Hid (∀ (i : Nat) (xs : List Int) g pc wx, xs.length = warm.length + i -> Lo w wx -> IntsAt wx (some ⟨g, 0, none⟩) xs -> Calls Tryz.prog 227 (#[.slice (some ⟨g, i, none⟩) warm.length pc] ++ #[.pointer (some ⟨b, 0, none⟩), .pointer (some ⟨b + 1, 0, none⟩)]) wx fun e w' => e = .returned (.int .i64 (foreN C sh xs (warm.length + i))) /\ w' = wx) := fun i xs g pc wx hxl hbx hx => by
  have hpl : ((xs.drop i).take C.length).length = C.length := by rw [List.length_take, List.length_drop]; omega
  have hpt := hx.part i C.length (by omega) (some ⟨g, i, none⟩) (fun b off e _ => by cases e; rw [Nat.zero_add])
  have hh := qclos_spec C ((xs.drop i).take C.length) ca (some ⟨g, i, none⟩) cc pc sh b hsh (by rw [hpl]; exact Nat.le_refl _) wx (hL.below hbx) hpt
  rw [hpl, foreN_part, hCw, Nat.add_comm i] at hh
  exact hh
 clear hl hL hw hout hCw
 generalize hm : warm.length = m at *
 generalize hn : l.length = n at *
 generalize hc : m + n = c at *
 go_enter Tryz.func234, Tryz.ntmps234
 go_wp2_with fail
 clear hmk hcp hgi
 go_loopw [7, 8, 9, 23] (fun s7 s8 s9 t wr => ∃ i : Nat, i <= n /\ t = .int .i64 (i : Int) /\ s7 = .slice (some ⟨w.heap.size, 0, none⟩) (m + i) c /\ Out w (.slice (some ⟨w.heap.size, 0, none⟩) (m + i) c) (wholeN C sh warm l i) wr) (fun _ _ _ t _ => n - (intOf t).toNat)
 case atStart => exact ⟨0, Nat.zero_le _, rfl, rfl, HO0.out⟩
 case round =>
  clear HO0
  obtain ⟨i, hi, rfl, rfl, hout⟩ := hrel
  by_cases hlt : i < n
  ·obtain ⟨b1, o1, rfl, q1⟩ := HL.out.at i (by rw [hn]; exact hlt)
   have r1 := q1 wr hout.below
   have HN := HSTEP.out i
   have hxl := HLN.out i
   have hxr := HRG.out i
   have HN2 : Hid (wholeN C sh warm l (i + 1) = wholeN C sh warm l i ++ [wrap64 (l.getD i 0 + foreN C sh (wholeN C sh warm l i) (m + i))]) := HN
   have hI : IntsAt wr (some ⟨w.heap.size, 0, none⟩) (wholeN C sh warm l i) := own_ints (cap := c) (by rw [hxl]; have := hout.own; rw [hxl] at this; exact this) (by omega) hxr
   have HK : Hid (∀ pc, Calls Tryz.prog 227 (#[.slice (some ⟨w.heap.size, i, none⟩) m pc] ++ #[.pointer (some ⟨b, 0, none⟩), .pointer (some ⟨b + 1, 0, none⟩)]) wr fun e w' => e = .returned (.int .i64 (foreN C sh (wholeN C sh warm l i) (m + i))) /\ w' = wr) := fun pc => KC.out i _ w.heap.size pc wr hxl hout.below hI
   have HO := kQ hout
   have HXL := kQ hxl
   clear q1 hI hxr hxl HN hout
   generalize wholeN C sh warm l i = xs at *
   generalize l.getD i 0 = x at *
   obtain ⟨p, hp⟩ : ∃ p : Nat, p = m + i := ⟨_, rfl⟩
   rw [<- hp] at HK HO HXL HN2 ⊢
   have hpm : p - i = m := by omega
   have hpc : p + 1 <= c := by omega
   have hip : i <= p := by omega
   have hne : ¬ c = i := by omega
   have hip2 : (i : Int) <= (p : Int) := by omega
   have hpi3 : (p : Int) - (i : Int) = (m : Int) := by omega
   have hpc2 : (p : Int) <= (c : Int) := by omega
   have HPE := kQ hp
   clear hp
   generalize foreN C sh xs p = fo at *
   go_wp2_with fail
   refine (HK.out _).mono ?_
   rintro e w3 ⟨rfl, hw3⟩
   subst hw3
   have HOA : Hid (Out w (.slice (some ⟨w.heap.size, 0, none⟩) p c) xs (w3.alloc (.cells #[.int .i64 (wrap64 (x + fo))] 3))) := HO.out.alloc _
   have HOW : Hid ((w3.alloc (.cells #[.int .i64 (wrap64 (x + fo))] 3)).ownsRow w.heap.size 3 1 (.slice (some ⟨w.heap.size, 0, none⟩) p c) p (intsC xs)) := by
    have := HOA.out.own
    rw [HXL.out] at this
    exact this
   clear HK KC
   go_wp2_with (at_builtin; refine wpList_append_fits _ rfl (.tmp 28) (.tmp 36) 56 rfl w.heap.size 3 i3 1 undI3 h3a h3c w.heap.size p c (intsC xs) rfl HOW.out ⟨w3.heap.size, 0, none⟩ 1 1 [.int .i64 (wrap64 (x + fo))] rfl rfl (World.news_of_block (cs := #[.int .i64 (wrap64 (x + fo))]) (t := 3) (fr := (0, 0)) (tmp_new w3 _)) (one_int _ _) hpc ?_; intro w6 ho6 hg6)
   have HPN : Hid (Out w (.slice (some ⟨w.heap.size, 0, none⟩) (p + 1) c) (xs ++ [wrap64 (x + fo)]) w6) := by
    have h7 := HOA.out.push (g := w.heap.size) (cap := c) (w1 := w6) (p := wrap64 (x + fo)) (by rw [HXL.out]; exact ho6.out) hg6.out
    rw [HXL.out] at h7
    exact h7
   clear ho6 hg6 HOA HOW HO
   go_roundw
   case rel => exact ⟨i + 1, by omega, by go_num, by rw [HPE.out]; rfl, by rw [HN2.out, <- Nat.add_assoc, <- HPE.out]; exact HPN.out⟩
   case measure => simp [intOf]; omega
  ·have hin : i = n := by omega
   subst hin
   have hxl := HLN.out i
   have HI : Hid (Made w (some ⟨w.heap.size, 0, none⟩) c (wholeN C sh warm l i) wr) := Made.of_out (by rw [hxl]; exact hout) (by omega) (HRG.out i)
   have HXL := kQ hxl
   clear hout hxl
   go_wp2_with fail
   go_ret
   exact ⟨_, _, by rw [HXL.out]; rfl, HI.out⟩
theorem qfixed_spec (o : Int) (l : List Int) (la : OA) (lc : Nat) (hlc : l.length <= lc) (w : World) (hl : IntsAt w la l) : Calls Tryz.prog 188 #[.int .i64 o, .slice la l.length lc] w (RetM (fixR o l) w) := by
 have h1 := hl.len
 by_cases h1 : o < 0
 rotate_left
 focus
  skip
  by_cases h2 : 4 < o
  rotate_left
  focus
   skip
   by_cases h3 : (l.length : Int) < o
   rotate_left
   ·skip
    obtain ⟨o', rfl⟩ : ∃ o' : Nat, o = (o' : Int) := ⟨o.toNat, by omega⟩
    have ho4 : o' <= 4 := by omega
    have hol : o' <= l.length := by omega
    have HWL : Hid ((wF o').length = o') := wF_len o' ho4
    have HR : Hid (fixR (o' : Int) l = some (leftN (wF o') 0 l (l.length - o'))) := by
     show _ = _
     unfold fixR; rw [if_pos (by omega)]; rfl
    have kw := qcoefs_spec o' ho4 w
    have HL := kQ hl
    clear hl
    go_enter Tryz.func188, Tryz.ntmps188
    go_wp2_with fail
    refine kw.mono ?_
    rintro e w2 ⟨ca, cc, rfl, hc, hb2⟩
    have km := qlinear_spec (wF o') ca cc 0 w2 hc
    rw [HWL.out] at km ⊢
    have HB2 := kQ hb2
    clear kw hb2 hc
    go_wp2_with fail
    refine km.mono ?_
    rintro e w3 ⟨b, rfl, hlin, hb3⟩
    have HB3 := kQ (HB2.out.trans (hb3.mono HB2.out.size))
    have kl := qleft_spec (wF o') l ca la cc lc 0 b (by omega) (by rw [HWL.out]; exact hol) hlc w3 hlin (HL.out.below HB3.out)
    rw [HWL.out] at kl
    clear km hb3 hlin HB2
    generalize leftN (wF o') 0 l (l.length - o') = R at *
    go_wp2_with fail
    refine kl.mono ?_
    rintro e w4 ⟨ao, ac, rfl, hi4⟩
    have HI := kQ (hi4.up HB3.out)
    clear hi4 kl
    go_wp2_with fail
    go_ret2
    exact retM_some HR.out rfl HI.out
  rotate_left
 rotate_left 2
 all_goals
  have HR : Hid (fixR o l = none) := by show _ = _; unfold fixR; rw [if_neg (by omega)]
  go_enter Tryz.func188, Tryz.ntmps188
  go_wp2_with fail
  go_ret2
  exact retM_none HR.out rfl (Below.refl _ _)
theorem qunfixed_spec (o : Int) (warm l : List Int) (wa la : OA) (wc lc : Nat) (hl9 : l.length <= 17592186043904) (w : World) (hw : IntsAt w wa warm) (hl : IntsAt w la l) : Calls Tryz.prog 225 #[.int .i64 o, .slice wa warm.length wc, .slice la l.length lc] w (RetM (unfR o warm l) w) := by
 have h1 := hw.len
 by_cases h1 : o < 0
 rotate_left
 focus
  skip
  by_cases h2 : 4 < o
  rotate_left
  focus
   skip
   by_cases h3 : ¬ (warm.length : Int) = o
   focus
    have hbn : ((warm.length : Int) != o) = true := by rw [bne_iff_ne]; exact h3
   rotate_left
   ·skip
    obtain ⟨o', rfl⟩ : ∃ o' : Nat, o = (o' : Int) := ⟨o.toNat, by omega⟩
    have ho4 : o' <= 4 := by omega
    have HWO : Hid (warm.length = o') := by show _ = _; omega
    have hbn : ((warm.length : Int) != (o' : Int)) = false := nQf (by omega)
    have HR : Hid (unfR (o' : Int) warm l = some (wholeN (wF o') 0 warm l l.length)) := by
     show _ = _
     unfold unfR; rw [if_pos (by omega)]; rfl
    have kw := qcoefs_spec o' ho4 w
    have HWL : Hid ((wF o').length = o') := wF_len o' ho4
    have HL := kQ hl
    have HW := kQ hw
    clear hl hw h3
    go_enter Tryz.func225, Tryz.ntmps225
    go_wp2_with fail
    refine kw.mono ?_
    rintro e w2 ⟨ca, cc, rfl, hc, hb2⟩
    have km := qlinear_spec (wF o') ca cc 0 w2 hc
    rw [HWL.out] at km ⊢
    have HB2 := kQ hb2
    clear kw hb2 hc
    go_wp2_with fail
    refine km.mono ?_
    rintro e w3 ⟨b, rfl, hlin, hb3⟩
    have HB3 := kQ (HB2.out.trans (hb3.mono HB2.out.size))
    have kl := qfore_spec (wF o') warm l ca wa la cc wc lc 0 b (by omega) (by rw [HWL.out, HWO.out]) (by have := HWO.out; omega) hl9 w3 hlin (HW.out.below HB3.out) (HL.out.below HB3.out)
    clear km hb3 hlin HB2
    generalize wholeN (wF o') 0 warm l l.length = R at *
    go_wp2_with fail
    refine kl.mono ?_
    rintro e w4 ⟨ao, ac, rfl, hi4⟩
    have HI := kQ (hi4.up HB3.out)
    clear hi4 kl
    go_wp2_with fail
    go_ret2
    exact retM_some HR.out rfl HI.out
  rotate_left
 rotate_left 2
 all_goals
  have HR : Hid (unfR o warm l = none) := by show _ = _; unfold unfR; rw [if_neg (by omega)]
  go_enter Tryz.func225, Tryz.ntmps225
  go_wp2_with fail
  go_ret2
  exact retM_none HR.out rfl (Below.refl _ _)
theorem qlpc_spec (C l : List Int) (sh : Int) (ca la : OA) (cc lc : Nat) (hlc : l.length <= lc) (w : World) (hC : IntsAt w ca C) (hl : IntsAt w la l) : Calls Tryz.prog 189 #[.slice ca C.length cc, .int .i64 sh, .slice la l.length lc] w (RetM (lpcR C sh l) w) := by
 have km := qmay_spec C sh ca cc w hC
 have h1 := hC.len
 have h2 := hl.len
 have HC := kQ hC
 have HL := kQ hl
 clear hC hl
 cases hm : mayB C sh with
 | false =>
  have HR : Hid (lpcR C sh l = none) := by show _ = _; unfold lpcR; rw [hm, if_neg (fun h => by cases h.1)]
  rw [hm] at km
  clear hm
  go_enter Tryz.func189, Tryz.ntmps189
  go_wp2_with fail
  refine km.mono ?_
  rintro e w2 ⟨rfl, rfl⟩
  go_wp2_with fail
  go_ret2
  exact retM_none HR.out rfl (Below.refl _ _)
 | true =>
  obtain ⟨m1, m2, m3, m4⟩ := (mayB_iff C sh).1 hm
  obtain ⟨s', rfl⟩ : ∃ s' : Nat, sh = (s' : Int) := ⟨sh.toNat, by omega⟩
  have hs31 : s' <= 31 := by omega
  by_cases hk : C.length <= l.length
  ·have hk2 : (C.length : Int) <= (l.length : Int) := by omega
   have HR : Hid (lpcR C (s' : Int) l = some (leftN C s' l (l.length - C.length))) := by show _ = _; unfold lpcR; rw [hm, if_pos ⟨rfl, hk⟩]; rfl
   skip
   rw [hm] at km
   clear hm
   go_enter Tryz.func189, Tryz.ntmps189
   go_wp2_with fail
   refine km.mono ?_
   rintro e w2 ⟨rfl, rfl⟩
   have kn := qlinear_spec C ca cc s' w2 HC.out
   clear km
   go_wp2_with fail
   refine kn.mono ?_
   rintro e w3 ⟨b, rfl, hlin, hb3⟩
   have HB3 := kQ hb3
   have kl := qleft_spec C l ca la cc lc s' b hs31 hk hlc w3 hlin (HL.out.below HB3.out)
   generalize leftN C s' l (l.length - C.length) = R at *
   clear kn hb3 hlin
   go_wp2_with fail
   refine kl.mono ?_
   rintro e w4 ⟨ao, ac, rfl, hi4⟩
   have HI := kQ (hi4.up HB3.out)
   clear hi4 kl
   go_wp2_with fail
   go_ret2
   exact retM_some HR.out rfl HI.out
  ·have HR : Hid (lpcR C (s' : Int) l = none) := by show _ = _; unfold lpcR; rw [if_neg (fun h => hk h.2)]
   have hk2 : (l.length : Int) < (C.length : Int) := by omega
   rw [hm] at km
   clear hm
   go_enter Tryz.func189, Tryz.ntmps189
   go_wp2_with fail
   refine km.mono ?_
   rintro e w2 ⟨rfl, rfl⟩
   go_wp2_with fail
   go_ret2
   exact retM_none HR.out rfl (Below.refl _ _)
theorem qunlpc_spec (C warm l : List Int) (sh : Int) (ca wa la : OA) (cc wc lc : Nat) (hl9 : l.length <= 17592186043904) (w : World) (hC : IntsAt w ca C) (hw : IntsAt w wa warm) (hl : IntsAt w la l) : Calls Tryz.prog 226 #[.slice ca C.length cc, .int .i64 sh, .slice wa warm.length wc, .slice la l.length lc] w (RetM (unlR C sh warm l) w) := by
 have km := qmay_spec C sh ca cc w hC
 have h1 := hC.len
 have h2 := hw.len
 have HC := kQ hC
 have HW := kQ hw
 have HL := kQ hl
 clear hC hl hw
 cases hm : mayB C sh with
 | false =>
  have HR : Hid (unlR C sh warm l = none) := by show _ = _; unfold unlR; rw [hm, if_neg (fun h => by cases h.1)]
  rw [hm] at km
  clear hm
  go_enter Tryz.func226, Tryz.ntmps226
  go_wp2_with fail
  refine km.mono ?_
  rintro e w2 ⟨rfl, rfl⟩
  go_wp2_with fail
  go_ret2
  exact retM_none HR.out rfl (Below.refl _ _)
 | true =>
  obtain ⟨m1, m2, m3, m4⟩ := (mayB_iff C sh).1 hm
  obtain ⟨s', rfl⟩ : ∃ s' : Nat, sh = (s' : Int) := ⟨sh.toNat, by omega⟩
  have hs31 : s' <= 31 := by omega
  by_cases hk : warm.length = C.length
  ·have hbn : ((warm.length : Int) != (C.length : Int)) = false := nQf (by omega)
   have HK := kQ hk
   have HR : Hid (unlR C (s' : Int) warm l = some (wholeN C s' warm l l.length)) := by show _ = _; unfold unlR; rw [hm, if_pos ⟨rfl, hk⟩]; rfl
   clear hk
   rw [hm] at km
   clear hm
   go_enter Tryz.func226, Tryz.ntmps226
   go_wp2_with fail
   refine km.mono ?_
   rintro e w2 ⟨rfl, rfl⟩
   have kn := qlinear_spec C ca cc s' w2 HC.out
   clear km
   go_wp2_with fail
   refine kn.mono ?_
   rintro e w3 ⟨b, rfl, hlin, hb3⟩
   have HB3 := kQ hb3
   have kl := qfore_spec C warm l ca wa la cc wc lc s' b hs31 HK.out.symm (by have := HK.out; omega) hl9 w3 hlin (HW.out.below HB3.out) (HL.out.below HB3.out)
   generalize wholeN C s' warm l l.length = R at *
   clear kn hb3 hlin
   go_wp2_with fail
   refine kl.mono ?_
   rintro e w4 ⟨ao, ac, rfl, hi4⟩
   have HI := kQ (hi4.up HB3.out)
   clear hi4 kl
   go_wp2_with fail
   go_ret2
   exact retM_some HR.out rfl HI.out
  ·have HR : Hid (unlR C (s' : Int) warm l = none) := by show _ = _; unfold unlR; rw [if_neg (fun h => hk h.2)]
   have hbn : ((warm.length : Int) != (C.length : Int)) = true := nQt (by omega)
   rw [hm] at km
   clear hm
   go_enter Tryz.func226, Tryz.ntmps226
   go_wp2_with fail
   refine km.mono ?_
   rintro e w2 ⟨rfl, rfl⟩
   go_wp2_with fail
   go_ret2
   exact retM_none HR.out rfl (Below.refl _ _)
theorem tt_iff {P : Prop} (h : P) : (true = true ↔ P) := ⟨fun _ => h, fun _ => rfl⟩
theorem ff_iff {P : Prop} (h : ¬ P) : (false = true ↔ P) := Iff.intro (fun e => Bool.noConfusion e) (fun e => absurd e h)
theorem bb_no {bb : Bool} {P : Prop} (h : bb = true ↔ P) (hn : ¬ P) : bb = false := by
 cases bb with
 | false => rfl
 | true => exact absurd (h.1 rfl) hn
theorem bb_yes {bb : Bool} {P : Prop} (h : bb = true ↔ P) (hn : P) : bb = true := h.2 hn
structure SX (w : World) (q : Sb) (ca : OA) (cc : Nat) (pa : OA) (pc : Nat) (ea : OA) (ec : Nat) (wx : World) : Prop where
 box : wx.heap[w.heap.size]? = some (.cells (subC q ca cc pa pc ea ec) 67 (0, 0))
 below : Lo w wx
section
variable {w wx w' : World} {q : Sb} {ca : OA} {cc : Nat} {pa : OA} {pc : Nat} {ea : OA} {ec : Nat}
theorem SX.new (w : World) (q : Sb) (ca : OA) (cc : Nat) (pa : OA) (pc : Nat) (ea : OA) (ec : Nat) : SX w q ca cc pa pc ea ec (w.alloc (.cells (subC q ca cc pa pc ea ec) 67)) :=
 ⟨heap_alloc_new _ _, aQ⟩
theorem SX.next (h : SX w q ca cc pa pc ea ec wx) (hb : Lo wx w') : SX w q ca cc pa pc ea ec w' :=
 ⟨by rw [hb.block _ (lt_of_block h.box)]; exact h.box, h.below.trans (hb.mono h.below.size)⟩
end
theorem fit_sign (x : Int) (k : Nat) : (-2 ^ k <= x /\ x < 2 ^ k) ↔ (x / 2 ^ k = 0 ∨ x / 2 ^ k = -1) := by
 have hq : (0 : Int) < 2 ^ k := Int.pow_pos (by decide)
 have h1 := Int.emod_add_mul_ediv x (2 ^ k)
 have h2 := Int.emod_nonneg x (Int.ne_of_gt hq)
 have h3 := Int.emod_lt_of_pos x hq
 generalize (2 : Int) ^ k = m at *
 generalize x % m = r at *
 generalize hy : x / m = y at *
 constructor
 ·rintro ⟨a, b⟩
  rcases Int.lt_or_le y (-1) with c | c
  ·have := Int.mul_le_mul_of_nonneg_left (show y <= -2 by omega) (Int.le_of_lt hq)
   omega
  ·rcases Int.lt_or_le 0 y with d | d
   ·have := Int.mul_le_mul_of_nonneg_left (show 1 <= y by omega) (Int.le_of_lt hq)
    omega
   ·omega
 ·rintro (c | c)
  ·rw [c, Int.mul_zero] at h1; omega
  ·rw [c, Int.mul_neg, Int.mul_one] at h1; omega
theorem div_rng (x : Int) (k : Nat) (h : -9223372036854775808 <= x /\ x <= 9223372036854775807) : -9223372036854775808 <= x / 2 ^ k /\ x / 2 ^ k <= 9223372036854775807 := by
 have hq : (0 : Int) < 2 ^ k := Int.pow_pos (by decide)
 have h1 := Int.ediv_mul_le x (Int.ne_of_gt hq)
 have h2 := Int.lt_ediv_add_one_mul_self x hq
 have hq1 : (1 : Int) <= 2 ^ k := hq
 generalize (2 : Int) ^ k = m at *
 generalize x / m = y at *
 constructor
 ·rcases Int.lt_or_le y (-9223372036854775808) with c | c
  ·have := Int.mul_le_mul_of_nonneg_right (show y + 1 <= -9223372036854775808 by omega) (Int.le_of_lt hq)
   omega
  ·exact c
 ·rcases Int.lt_or_le 9223372036854775807 y with c | c
  ·have := Int.mul_le_mul_of_nonneg_right (show 9223372036854775808 <= y by omega) (Int.le_of_lt hq)
   omega
  ·exact c
theorem sigE_sign (x : Int) (k : Nat) (hk : k <= 63) : sigE x ((k : Int) + 1) = 0 ↔ (x / 2 ^ k = 0 ∨ x / 2 ^ k = -1) := by
 rw [sigE_iff, <- fit_sign, show ((k : Int) + 1).toNat - 1 = k by omega]
 constructor
 ·rintro ⟨_, _, a, b⟩; exact ⟨a, b⟩
 ·rintro ⟨a, b⟩; exact ⟨by omega, by omega, a, b⟩
theorem s_areOf (b v : Int) (bb : Bool) (hbb : bb = true ↔ (1 <= b /\ b <= 65535) /\ (1 <= v /\ v <= 33)) (w : World) : Calls Tryz.prog 133 #[.int .i64 b, .int .i64 v] w fun e w' => e = .returned (.bool bb) /\ w' = w := by
 by_cases g0 : b < 1
 focus
  rw [bb_no hbb (by omega)]
  clear hbb
 rotate_left
 focus
  skip
  by_cases g1 : 65535 < b
  focus
   rw [bb_no hbb (by omega)]
   clear hbb
  rotate_left
  focus
   skip
   by_cases g2 : v < 1
   focus
    rw [bb_no hbb (by omega)]
    clear hbb
   rotate_left
   focus
    skip
    by_cases g3 : 33 < v
    focus
     rw [bb_no hbb (by omega)]
     clear hbb
     have hb : decide (v <= 33) = false := decide_eq_false (by omega)
    rotate_left
    focus
     skip
     rw [bb_yes hbb (by omega)]
     clear hbb
     have hb : decide (v <= 33) = true := decide_eq_true (by omega)
    rotate_left
   rotate_left 2
  rotate_left 3
 rotate_left 4
 all_goals
  go_enter Tryz.func133, Tryz.ntmps133
  go_wp2_with fail
  go_ret
  exact ⟨rfl, rfl⟩
theorem s_within (l : List Int) (la : OA) (lc : Nat) (k : Nat) (hk : k <= 63) (bb : Bool) (hbb : bb = true ↔ ∀ x ∈ l, sigE x ((k : Int) + 1) = 0) (w : World) (hl : IntsAt w la l) : Calls Tryz.prog 142 #[.slice la l.length lc, .int .i64 ((k : Int) + 1)] w fun e w' => e = .returned (.bool bb) /\ w' = w := by
 have HL := kQ hl
 have h1 := hl.len
 have HBB := kQ hbb
 clear hbb hl
 go_enter Tryz.func142, Tryz.ntmps142
 go_wp2_with fail
 go_loopw [6, 7, 10] (fun s6 s7 t wr => ∃ i : Nat, i <= l.length /\ t = .int .i64 (i : Int) /\ (∀ j, j < i -> sigE (l.getD j 0) ((k : Int) + 1) = 0) /\ wr = w) (fun _ _ t _ => l.length - (intOf t).toNat)
 case atStart => exact ⟨0, Nat.zero_le _, rfl, fun j hj => absurd hj (Nat.not_lt_zero _), rfl⟩
 case round =>
  obtain ⟨i, hi, rfl, hs, rfl⟩ := hrel
  have HS := kQ hs
  clear hs
  by_cases hlt : i < l.length
  focus
   obtain ⟨b1, o1, rfl, q1⟩ := HL.out.at i hlt
   have r1 := q1 wr (Below.refl _ _)
   have hsg := sigE_sign (l.getD i 0) k hk
   have hrg := HL.out.rng i
   have HM : Hid (l.getD i 0 ∈ l) := by
    show _ ∈ _
    rw [List.getD_eq_getElem?_getD, List.getElem?_eq_getElem hlt]; exact List.getElem_mem hlt
   have hdr : -9223372036854775808 <= l.getD i 0 / 2 ^ k /\ l.getD i 0 / 2 ^ k <= 9223372036854775807 := div_rng _ k hrg
   have HSG := kQ hsg
   have HE : Hid (∀ j, j = i -> l.getD j 0 = l.getD i 0) := fun j hj => by rw [hj]
   clear q1 hsg
   generalize l.getD i 0 = x at *
   by_cases c0 : x / 2 ^ k = 0
   focus
    have hb0 : (x / 2 ^ k != 0) = false := by rw [bne_eq_false_iff_eq]; exact c0
    have HX := kQ (HSG.out.2 (.inl c0))
    clear HSG c0 HM
   rotate_left
   focus
    by_cases c1 : x / 2 ^ k = -1
    focus
     have hb0 : (x / 2 ^ k != 0) = true := by rw [bne_iff_ne]; exact c0
     have hb1 : (x / 2 ^ k != -1) = false := by rw [bne_eq_false_iff_eq]; exact c1
     have HX := kQ (HSG.out.2 (.inr c1))
     clear HSG c0 c1 HM
    rotate_left
    ·have hb0 : (x / 2 ^ k != 0) = true := by rw [bne_iff_ne]; exact c0
     have hb1 : (x / 2 ^ k != -1) = true := by rw [bne_iff_ne]; exact c1
     have HF : Hid (bb = false) := bb_no HBB.out (fun h => by
      have := HSG.out.1 (h x HM.out)
      omega)
     clear HSG c0 c1 HM
     go_wp2_with fail
     go_ret
     exact ⟨by rw [HF.out]; rfl, rfl⟩
   rotate_left
  rotate_left 2
  ·have HF : Hid (bb = true) := bb_yes HBB.out (fun x hx => by
    obtain ⟨j, hj, rfl⟩ := List.mem_iff_getElem.1 hx
    have := HS.out j (by omega)
    rw [List.getD_eq_getElem?_getD, List.getElem?_eq_getElem hj] at this
    exact this)
   go_wp2_with fail
   go_ret
   exact ⟨by rw [HF.out]; rfl, rfl⟩
  all_goals
   go_wp2_with fail
   go_roundw
   case rel =>
    refine ⟨i + 1, by omega, by go_num, fun j hj => ?_, trivial⟩
    by_cases e : j = i
    ·rw [HE.out j e]; exact HX.out
    ·exact HS.out j (by omega)
   case measure => simp [intOf]; omega
end Go.Proofs.YtfpfabmbipmipaaGreatDoor
