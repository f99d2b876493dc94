/- Own text: the program's foretold. -/
import Derived.Test.YtpfkaddammfkkabDoorQ9small
import Derived.Laws.CopyRow
import Derived.Laws.IdiomCopy
import Derived.Laws.OwnMore
import Derived.Shelf.Abstract
namespace Go.Proofs.YtpfkaddammfkkabDoor
open Go.RowKit
set_option linter.unusedSimpArgs false
set_option linter.unusedVariables false

/-- Append where there is room. -/
theorem wpList_append_fits {P : Program} (w : World) {ops : Array Oper} {rest : List Oper} {o : Oper} {a : Act} {Q : Exit → Act → World → Prop} (hgd : o.guard = none) (s x : Operand) (t : TypeId)
    (ho : o.op = .call { callee := .builtin .append, args := #[s, x], argTypes := #[t, t] })
    (base : Nat) (e : TypeId) (i : TypeInfo) (size : Nat) (ht : P.underlying t = some (.slice e)) (hi : P.info? e = some i) (hsize : i.size = size)
    (g n cap : Nat) (xs : List Value) (hs : a.eval s = .slice (some ⟨g, 0, none⟩) n cap) (hown : w.ownsRow base e size (.slice (some ⟨g, 0, none⟩) n cap) n xs)
    (ad : Addr) (m c : Nat) (news : List Value) (hx : a.eval x = .slice (some ad) m c) (hl : news.length = m * size) (hnews : ∀ j u, news[j]? = some u → w.cell? (ad.add j) = some u) (h1 : ∀ u ∈ news, u.oneCell' = true)
    (hroom : n + m ≤ cap)
    (h : ∀ w', Hid (w'.ownsRow base e size (.slice (some ⟨g, 0, none⟩) (n + m) cap) (n + m) (xs ++ news)) → Hid (w.grownBy w' (some g)) → wpList P ops Q rest (a.put o.dst (.slice (some ⟨g, 0, none⟩) (n + m) cap)) w') : wpList P ops Q (o :: rest) a w := by
  refine wpList_plain hgd fun K hK => ?_
  obtain ⟨w', hrun, r1, r2⟩ := run_append_fits (P := P) w base t o.type e i size ht hi hsize g n cap xs hown ad m c news hl hnews h1 hroom
  unfold Oper.wp
  simp [execOp, ho, resolve, invoke, builtin, hs, hx, hrun, Result.andThen]
  exact hK _ _ (h w' r1 r2)

theorem make_room (m n : Nat) (hn : m + n ≤ 17592186044415) (w : World) : (Instr.makeSlice 22 (.int .i64 (m : Int)) (.int .i64 ((m + n : Nat) : Int))).run Tryd.prog w = .ok (.slice (some ⟨w.heap.size, 0, none⟩) m (m + n)) (w.alloc (.cells (madeCells #[.int .i64 0] (m + n)) 3)) := by
  obtain ⟨i, h1, h2, h3, h4⟩ := int_info
  have hh := run_make (P := Tryd.prog) w 22 3 i _ undI3 h1 h2 .i64 .i64 (m : Int) ((m + n : Nat) : Int) (by omega) (by omega) (by rw [h4]; omega) (by omega)
  rw [h3] at hh
  generalize m + n = c at *
  simpa [Value.cells] using hh
/-- make, and copy of a list into what it made. -/
theorem made_copy (warm : List Int) (n : Nat) (wa : Option Addr) (wc : Nat) (hn : warm.length + n ≤ 17592186044415) (w : World) (hw : IntsAt w wa warm) :
    ∃ w', (Builtin.copy_ #[22, 22] 3 #[.slice (some ⟨w.heap.size, 0, none⟩) warm.length (warm.length + n), .slice wa warm.length wc]).run Tryd.prog (w.alloc (.cells (madeCells #[.int .i64 0] (warm.length + n)) 3)) = .ok (goInt warm.length) w' ∧ Out w (.slice (some ⟨w.heap.size, 0, none⟩) warm.length (warm.length + n)) warm w' := by
  have hs : (Tryd.prog.info? 3).map (·.size) = some 1 := by kernel_rfl
  have hmin : Nat.min warm.length warm.length = warm.length := Nat.min_self _
  have hB : Below w.heap.size w (w.alloc (.cells (madeCells #[.int .i64 0] (warm.length + n)) 3)) := (Below.refl _ _).alloc (Nat.le_refl _) _
  have hW := hw.below hB
  have hg := heap_alloc_new w (.cells (madeCells #[.int .i64 0] (warm.length + n)) 3)
  have hsz : (madeCells #[.int .i64 0] (warm.length + n)).size = warm.length + n := size_madeCells _ _
  generalize madeCells #[.int .i64 0] (warm.length + n) = cur at *
  generalize w.alloc (.cells cur 3) = w1 at *
  by_cases h0 : warm.length = 0
  · have hnil : warm = [] := List.eq_nil_of_length_eq_zero h0
    subst hnil
    refine ⟨w1, run_copy_none w1 22 22 3 3 _ _ 0 _ 0 wc undI3 hs rfl, ⟨⟨rfl, .inr ⟨w.heap.size, _, cur, rfl, Nat.le_refl _, hg, Nat.zero_le _, by unfold maxLen; omega, by rw [hsz]; omega, by simp [intsC]⟩⟩, hB⟩⟩
  · obtain ⟨b, off, rfl⟩ := hW.addr (by omega)
    have hrun := run_copy_row (P := Tryd.prog) w1 22 22 3 3 w.heap.size 0 warm.length (warm.length + n) ⟨b, off, none⟩ warm.length wc cur 3 (intsC warm) undI3 hs hg (by rw [intsC_length, hmin]) (hW.news _ rfl) (by rw [intsC_length, hsz]; omega) (intsC_one warm)
    rw [intsC_length] at hrun
    refine ⟨_, hrun, ⟨⟨by rw [intsC_length]; omega, .inr ⟨w.heap.size, _, _, rfl, Nat.le_refl _, setRow_heap w1 w.heap.size cur _ 3 (0, 0) hg, by omega, by unfold maxLen; omega, ?_, ?_⟩⟩, ?_⟩⟩
    · simp [intsC_length, hsz]
    · have e : warm.length * 1 = (intsC warm).length := by rw [intsC_length]; omega
      rw [e]
      simp
    · exact ⟨hB.os, hB.tape, hB.output, by rw [size_setRow]; exact hB.size, fun k hk => by rw [setRow_other _ _ _ _ (by omega)]; exact hB.block k hk⟩
theorem drop_len (xs : List Int) (i m : Nat) (h : xs.length = m + i) : (xs.drop i).take m = xs.drop i := List.take_of_length_le (by rw [List.length_drop]; omega)
set_option maxRecDepth 20000 in
set_option maxHeartbeats 3200000 in
theorem qfore_spec (C warm l : List Int) (ca wa la : Option Addr) (cc wc lc sh b : Nat) (hsh : sh ≤ 31) (hCw : C.length = warm.length) (hw32 : warm.length ≤ 32) (hl9 : l.length ≤ 17592186043904) (w : World) (hL : Lin b C ca cc sh w) (hw : IntsAt w wa warm) (hl : IntsAt w la l) :
    Calls Tryd.prog 18 #[linV b, .slice wa warm.length wc, .slice la l.length lc] w fun e w' => ∃ ga gc, e = .returned (.slice ga (wholeN C sh warm l l.length).length gc) ∧ IntsAt w' ga (wholeN C sh warm l l.length) ∧ Below w.heap.size w w' := by
  obtain ⟨i3, h3a, h3b, h3c, h3d⟩ := int_info
  have hmk := make_room warm.length l.length (by omega)
  obtain ⟨w2, hcp, hout⟩ := made_copy warm l.length wa wc (by omega) w hw
  have HO0 : Hid (Out w (.slice (some ⟨w.heap.size, 0, none⟩) warm.length (warm.length + l.length)) warm w2) := hout
  have HL : Hid (IntsAt w la l) := hl
  have HLI : Hid (Lin b C ca cc sh w) := hL
  have HRG : Hid (∀ n, Rng (wholeN C sh warm l n)) := fun n => wholeN_rng C sh warm l hw.num n
  have HLN : Hid (∀ n, (wholeN C sh warm l n).length = warm.length + n) := fun n => wholeN_len C sh warm l n
  have HCQ : Hid (C.length = warm.length) := hCw
  have hgi : goInt warm.length = .int .i64 (warm.length : Int) := rfl
  have hsum : (warm.length : Int) + (l.length : Int) = ((warm.length + l.length : Nat) : Int) := by omega
  have HSTEP : Hid (∀ i, wholeN C sh warm l (i + 1) = wholeN C sh warm l i ++ [wrap64 (l.getD i 0 + foreN C sh (wholeN C sh warm l i) (warm.length + i))]) := fun i => rfl
  have KC : Hid (∀ (i : Nat) (xs : List Int) g pc wx, xs.length = warm.length + i → Below w.heap.size w wx → IntsAt wx (some ⟨g, 0, none⟩) xs → Calls Tryd.prog 16 (#[.slice (some ⟨g, i, none⟩) warm.length pc] ++ #[.pointer (some ⟨b, 0, none⟩), .pointer (some ⟨b + 1, 0, none⟩)]) wx fun e w' => e = .returned (.int .i64 (foreN C sh xs (warm.length + i))) ∧ w' = wx) := fun i xs g pc wx hxl hbx hx => by
    have hpl : ((xs.drop i).take C.length).length = C.length := by rw [List.length_take, List.length_drop]; omega
    have hpt := hx.part i C.length (by omega) (some ⟨g, i, none⟩) (fun b off e _ => by cases e; rw [Nat.zero_add])
    have hh := qclos_spec C ((xs.drop i).take C.length) ca (some ⟨g, i, none⟩) cc pc sh b hsh (by rw [hpl]; exact Nat.le_refl _) wx (hL.below hbx) hpt
    rw [hpl, foreN_part, hCw, Nat.add_comm i] at hh
    exact hh
  clear hl hL hw hout hCw
  generalize hm : warm.length = m at *
  generalize hn : l.length = n at *
  generalize hc : m + n = c at *
  go_enter Tryd.func18, Tryd.ntmps18
  go_wp2_with fail
  clear hmk hcp hgi
  go_loopw [7, 8, 9, 23] (fun s7 s8 s9 t wr => ∃ i : Nat, i ≤ n ∧ t = .int .i64 (i : Int) ∧ s7 = .slice (some ⟨w.heap.size, 0, none⟩) (m + i) c ∧ Out w (.slice (some ⟨w.heap.size, 0, none⟩) (m + i) c) (wholeN C sh warm l i) wr) (fun _ _ _ t _ => n - (intOf t).toNat)
  case atStart => exact ⟨0, Nat.zero_le _, rfl, rfl, HO0.out⟩
  case round =>
    clear HO0
    obtain ⟨i, hi, rfl, rfl, hout⟩ := hrel
    by_cases hlt : i < n
    · obtain ⟨b1, o1, rfl, q1⟩ := HL.out.at i (by rw [hn]; exact hlt)
      have r1 := q1 wr hout.below
      have HN := HSTEP.out i
      have hxl := HLN.out i
      have hxr := HRG.out i
      have HN2 : Hid (wholeN C sh warm l (i + 1) = wholeN C sh warm l i ++ [wrap64 (l.getD i 0 + foreN C sh (wholeN C sh warm l i) (m + i))]) := HN
      have hI : IntsAt wr (some ⟨w.heap.size, 0, none⟩) (wholeN C sh warm l i) := own_ints (cap := c) (by rw [hxl]; have := hout.own; rw [hxl] at this; exact this) (by omega) hxr
      have HK : Hid (∀ pc, Calls Tryd.prog 16 (#[.slice (some ⟨w.heap.size, i, none⟩) m pc] ++ #[.pointer (some ⟨b, 0, none⟩), .pointer (some ⟨b + 1, 0, none⟩)]) wr fun e w' => e = .returned (.int .i64 (foreN C sh (wholeN C sh warm l i) (m + i))) ∧ w' = wr) := fun pc => KC.out i _ w.heap.size pc wr hxl hout.below hI
      have HO : Hid (Out w (.slice (some ⟨w.heap.size, 0, none⟩) (m + i) c) (wholeN C sh warm l i) wr) := hout
      have HXL : Hid ((wholeN C sh warm l i).length = m + i) := hxl
      clear q1 hI hxr hxl HN hout
      generalize wholeN C sh warm l i = xs at *
      generalize l.getD i 0 = x at *
      obtain ⟨p, hp⟩ : ∃ p : Nat, p = m + i := ⟨_, rfl⟩
      rw [← hp] at HK HO HXL HN2 ⊢
      have hpm : p - i = m := by omega
      have hpc : p + 1 ≤ c := by omega
      have hip : i ≤ p := by omega
      have hne : ¬ c = i := by omega
      have hip2 : (i : Int) ≤ (p : Int) := by omega
      have hpi3 : (p : Int) - (i : Int) = (m : Int) := by omega
      have hpc2 : (p : Int) ≤ (c : Int) := by omega
      have HPE : Hid (p = m + i) := hp
      clear hp
      generalize foreN C sh xs p = fo at *
      go_wp2_with fail
      refine (HK.out _).mono ?_
      rintro e w3 ⟨rfl, hw3⟩
      subst hw3
      have HOA : Hid (Out w (.slice (some ⟨w.heap.size, 0, none⟩) p c) xs (w3.alloc (.cells #[.int .i64 (wrap64 (x + fo))] 3))) := HO.out.alloc _
      have HOW : Hid ((w3.alloc (.cells #[.int .i64 (wrap64 (x + fo))] 3)).ownsRow w.heap.size 3 1 (.slice (some ⟨w.heap.size, 0, none⟩) p c) p (intsC xs)) := by
        have := HOA.out.own
        rw [HXL.out] at this
        exact this
      clear HK KC
      go_wp2_with (at_builtin; refine wpList_append_fits _ rfl (.tmp 28) (.tmp 36) 22 rfl w.heap.size 3 i3 1 undI3 h3a h3c w.heap.size p c (intsC xs) rfl HOW.out ⟨w3.heap.size, 0, none⟩ 1 1 [.int .i64 (wrap64 (x + fo))] rfl rfl (World.news_of_block (cs := #[.int .i64 (wrap64 (x + fo))]) (t := 3) (fr := (0, 0)) (tmp_new w3 _)) (one_int _ _) hpc ?_; intro w6 ho6 hg6)
      have HPN : Hid (Out w (.slice (some ⟨w.heap.size, 0, none⟩) (p + 1) c) (xs ++ [wrap64 (x + fo)]) w6) := by
        have h7 := HOA.out.push (g := w.heap.size) (cap := c) (w1 := w6) (p := wrap64 (x + fo)) (by rw [HXL.out]; exact ho6.out) hg6.out
        rw [HXL.out] at h7
        exact h7
      clear ho6 hg6 HOA HOW HO
      go_roundw
      case rel => exact ⟨i + 1, by omega, by go_num, by rw [HPE.out]; rfl, by rw [HN2.out, ← Nat.add_assoc, ← HPE.out]; exact HPN.out⟩
      case measure => simp [intOf]; omega
    · have hin : i = n := by omega
      subst hin
      have hxl := HLN.out i
      have HI : Hid (IntsAt wr (some ⟨w.heap.size, 0, none⟩) (wholeN C sh warm l i) ∧ Below w.heap.size w wr) := ⟨own_ints (cap := c) (by rw [hxl]; have := hout.own; rw [hxl] at this; exact this) (by omega) (HRG.out i), hout.below⟩
      have HXL : Hid ((wholeN C sh warm l i).length = m + i) := hxl
      clear hout hxl
      go_wp2_with fail
      go_ret
      exact ⟨_, _, by rw [HXL.out]; rfl, HI.out.1, HI.out.2⟩

end Go.Proofs.YtpfkaddammfkkabDoor
