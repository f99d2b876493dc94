/-
  Own text: for every text, every place and every change of a byte: one byte that is another one lets each of the four sums be another one, and the chapter's examples hold. Laid: the package's constant table of rules starts as the program's text lays it (the card ties it).
-/
import Derived.Test.YtdmgkgomldjnhaaDoorBufs
import Derived.Deep.RegionHeld
import Derived.WalkKit
import Derived.ProofKit
import Derived.OpenShut
import Derived.ShutString
import Derived.ChangeOld
import Derived.Below
import Derived.SizedLaws
namespace Go.Proofs.YtdmgkgomldjnhaaDoor.sumsSpoilt
open Go.ChangeShapes Go.WideShapes Go.ChangeAt Go.RowKit
open Go.ChangeMaps (open_string shut_string)
set_option linter.unusedSimpArgs false
set_option linter.unusedVariables false

theorem not_empty (s : ByteArray) (h : ¬ s.size = 0) : s.toList.isEmpty = false := by
  rw [ByteArray.toList_eq, List.isEmpty_eq_false_iff]
  intro e
  apply h
  have : s.data.toList.length = 0 := by rw [e]; rfl
  rw [Array.length_toList] at this
  exact this

theorem place (a : Int) (n : Nat) (hn : n ≠ 0) (hl : n ≤ 200000000000000) : ∃ k : Nat, k < n ∧ (wrap64 (a.tmod (n : Int) + (n : Int))).tmod (n : Int) = (k : Int) := by
  have h1 := Int.tmod_lt_of_pos a (show (0 : Int) < (n : Int) by omega)
  have h2 := Int.lt_tmod_of_pos a (show (0 : Int) < (n : Int) by omega)
  generalize a.tmod (n : Int) = r at *
  have e : wrap64 (r + (n : Int)) = r + (n : Int) := by
    unfold wrap64
    omega
  rw [e]
  have h3 := Int.tmod_lt_of_pos (r + (n : Int)) (show (0 : Int) < (n : Int) by omega)
  have h4 := Int.tmod_nonneg (n : Int) (show 0 ≤ r + (n : Int) by omega)
  generalize (r + (n : Int)).tmod (n : Int) = z at *
  exact ⟨z.toNat, by omega, by omega⟩

/-- What stays through the loop: the table of rules, the spoilt text, the list of kinds; of what was there nothing turns. -/
structure Good (w0 : World) (g cap : Nat) (l : List Nat) (b : Nat) (w : World) : Prop where
  rules : RulesAt w
  below : Below w0.heap.size w0 w
  buf : Buf w0.heap.size w g cap l
  row : w.heap[b]? = some (.cells #[.int .i64 8, .int .i64 16, .int .i64 32, .int .i64 33] 3 (0, 0))

theorem Good.next {w0 w w' : World} {g cap b : Nat} {l : List Nat} (h : Good w0 g cap l b w) (hB : Below w.heap.size w w') : Good w0 g cap l b w' :=
  ⟨h.rules.below hB, h.below.trans (hB.mono h.below.size), h.buf.kept (hB.block _ h.buf.lt) hB.size, by rw [hB.block _ (lt_of_block h.row)]; exact h.row⟩

theorem Good.kind {w0 w : World} {g cap b : Nat} {l : List Nat} (h : Good w0 g cap l b w) (i : Nat) (hi : i < 4) : w.cell? ⟨b, i, none⟩ = some (.int .i64 (kd i)) := by
  rw [cell_of_row _ _ _ _ _ _ h.row]
  rcases i with _ | _ | _ | _ | i
  · rfl
  · rfl
  · rfl
  · rfl
  · omega

set_option maxRecDepth 20000 in
set_option maxHeartbeats 3200000 in
theorem walk (s : ByteArray) (hs : s.size ≤ 140737488351232) (at_ : Int) (at_1 : -9223372036854775808 ≤ at_) (at_2 : at_ ≤ 9223372036854775807) (ch : Int) (ch1 : 0 ≤ ch) (ch2 : ch ≤ 255) (w : World) (hR : RulesAt w) :
    Calls Tryd.prog 5 #[.string s, .int .i64 at_, .int .u8 ch] w fun e w' => e = .returned (.bool true) ∧ Below w.heap.size w w' := by
  have hs' : s.size ≤ 200000000000000 := by omega
  have H0 : Hid (RulesAt w) := hR
  clear hR
  by_cases he : s.size = 0
  · have hse : s = ⟨#[]⟩ := by
      apply ByteArray.ext
      exact Array.eq_empty_of_size_eq_zero he
    subst hse
    go_enter Tryd.func5, Tryd.ntmps5
    go_wp2_with fail
    refine (awake_spec w H0.out).mono ?_
    rintro e w1 ⟨rfl, hB⟩
    have HB : Hid (Below w.heap.size w w1) := hB
    clear hB
    go_wp2
    go_ret
    exact ⟨rfl, HB.out⟩
  · have hem := not_empty s he
    by_cases hc0 : ch = 0
    · subst hc0
      go_enter Tryd.func5, Tryd.ntmps5
      go_wp2_with fail
      refine (awake_spec w H0.out).mono ?_
      rintro e w1 ⟨rfl, hB⟩
      have HB : Hid (Below w.heap.size w w1) := hB
      clear hB
      go_wp2
      go_ret
      exact ⟨rfl, HB.out⟩
    · obtain ⟨c, rfl⟩ : ∃ c : Nat, ch = (c : Int) := ⟨ch.toNat, by omega⟩
      obtain ⟨cap, w1, hrun, hbuf, hB1⟩ := run_buf_make w (bytesOf s) (bytesOf_lt s)
      rw [textOf_bytesOf, bytesOf_length] at hrun
      obtain ⟨k, hk, hkk⟩ := place at_ s.size he hs'
      have hkl : k < (bytesOf s).length := by rw [bytesOf_length]; exact hk
      have hcell := hbuf.cells k hkl
      have hth := (hbuf.there k (Nat.lt_of_lt_of_le hkl hbuf.room)).2
      have hb256 : (bytesOf s).getD k 0 < 256 := by
        rw [List.getD_eq_getElem?_getD, List.getElem?_eq_getElem hkl]
        exact bytesOf_lt s _ (List.getElem_mem hkl)
      have hxor : bits .xor .u8 (((bytesOf s).getD k 0 : Nat) : Int) (c : Int) = (((bytesOf s).getD k 0 ^^^ c : Nat) : Int) := u8_xor_nat _ _ hb256 (by omega)
      have HS := hbuf.set k ((bytesOf s).getD k 0 ^^^ c) hkl
      have hsl : (bytesOf s).set k ((bytesOf s).getD k 0 ^^^ c) = spoiltL s k c := rfl
      rw [hsl] at HS
      clear hsl
      generalize (bytesOf s).getD k 0 ^^^ c = y at *
      generalize (bytesOf s).getD k 0 = x at *
      have HSH : Hid (Buf w.heap.size (w1.setCell ⟨w.heap.size, k, none⟩ (.int .u8 (y : Int))) w.heap.size cap (spoiltL s k c)) := HS
      have HB1 : Hid (Below w.heap.size w w1) := hB1
      clear HS hbuf hB1 hkl
      go_enter Tryd.func5, Tryd.ntmps5
      go_wp2_with fail
      refine (kinds_spec _).mono ?_
      rintro e w2 ⟨rfl, hw2⟩
      have HG : Hid (Good w w.heap.size cap (spoiltL s k c) (w1.setCell ⟨w.heap.size, k, none⟩ (.int .u8 (y : Int))).heap.size w2) := by
        have hB2 : Below w.heap.size w (w1.setCell ⟨w.heap.size, k, none⟩ (.int .u8 (y : Int))) := HB1.out.setCell (by simp) _
        have hB3 : Below w.heap.size w w2 := by
          rw [hw2]
          exact hB2.alloc hB2.size _
        refine ⟨H0.out.below hB3, hB3, ?_, ?_⟩
        · rw [hw2]
          exact HSH.out.kept (Below.heap_alloc _ _ _ HSH.out.lt) (by simp)
        · rw [hw2]
          exact heap_alloc_last _ _
      clear hw2
      generalize (w1.setCell ⟨w.heap.size, k, none⟩ (.int .u8 (y : Int))).heap.size = b at *
      clear HSH HB1 hcell hth hxor hrun hkk
      have HT : Hid ((textOf (spoiltL s k c)).size ≤ 200000000000000) := by
        show _ ≤ _
        rw [textOf_size, spoiltL_length]
        exact hs'
      have HL : Hid (s.size = (spoiltL s k c).length) := (spoiltL_length s k c).symm
      have HN : Hid (∀ i, cOf i s ≠ cOf i (textOf (spoiltL s k c))) := fun i => spoilt_ne i s k c hk (by omega) (by omega)
      generalize spoiltL s k c = L at *
      go_wp2_with fail
      go_loopw [9] (fun u wr => ∃ i : Nat, i ≤ 4 ∧ u = .int .i64 (i : Int) ∧ Good w w.heap.size cap L b wr) (fun u _ => 4 - (intOf u).toNat)
      case atStart => exact ⟨0, by decide, rfl, HG.out⟩
      case round =>
        clear HG
        obtain ⟨i, hi, rfl, hg⟩ := hrel
        by_cases hlt : i < 4
        · have KA : Hid (∀ wx, Hid (Good w w.heap.size cap L b wx) → Calls Tryd.prog 22 #[.int .i64 (kd i), .string s] wx fun e w' => e = .returned (.int .i64 (cOf i s : Int)) ∧ Hid (Good w w.heap.size cap L b w')) := fun wx hx =>
            (lawOf_spec i s hs' wx hx.out.rules).mono fun e w' h => ⟨h.1, hx.out.next h.2⟩
          have KB : Hid (∀ wx, Hid (Good w w.heap.size cap L b wx) → Calls Tryd.prog 22 #[.int .i64 (kd i), .string (textOf L)] wx fun e w' => e = .returned (.int .i64 (cOf i (textOf L) : Int)) ∧ Hid (Good w w.heap.size cap L b w')) := fun wx hx =>
            (lawOf_spec i (textOf L) HT.out wx hx.out.rules).mono fun e w' h => ⟨h.1, hx.out.next h.2⟩
          have hne : ¬ (cOf i s : Int) = (cOf i (textOf L) : Int) := by
            have := HN.out i
            omega
          have HC : Hid (∀ wx, Hid (Good w w.heap.size cap L b wx) → Hid (Good w w.heap.size cap L b wx) ∧ wx.cell? ⟨b, i, none⟩ = some (.int .i64 (kd i)) ∧ (convert 33 9 (.slice (some ⟨w.heap.size, 0, none⟩) s.size cap)).run Tryd.prog wx = .ok (.string (textOf L)) wx) := fun wx hx =>
            ⟨hx, hx.out.kind i hlt, run_buf_text hx.out.buf s.size HL.out⟩
          have HD : Hid (Good w w.heap.size cap L b wr.drew) := hg.next ⟨rfl, rfl, rfl, Nat.le_refl _, fun _ _ => rfl⟩
          clear hg
          generalize cOf i s = A at *
          generalize cOf i (textOf L) = A' at *
          generalize kd i = K at *
          generalize textOf L = x' at *
          go_wp2_with fail
          go_region_held (fun wx => Hid (Good w w.heap.size cap L b wx) ∧ wx.cell? ⟨b, i, none⟩ = some (.int .i64 K) ∧ (convert 33 9 (.slice (some ⟨w.heap.size, 0, none⟩) s.size cap)).run Tryd.prog wx = .ok (.string x') wx) (exact HC.out _ (by assumption))
            (first | (go_at_call_of 22 (Value.string s); refine (KA.out _ ?_).mono ?_; (first | assumption | exact (by assumption : _ ∧ _).1); rintro e w4 ⟨rfl, h4⟩) | (go_at_call_of 22 (Value.string x'); refine (KB.out _ ?_).mono ?_; (first | assumption | exact (by assumption : _ ∧ _).1); rintro e w4 ⟨rfl, h4⟩))
          go_wp2
          go_roundw
          case rel =>
            refine ⟨i + 1, by omega, by go_num, ?_⟩
            apply Hid.out
            assumption
          case measure => simp [intOf]; omega
        · have HG : Hid (Good w w.heap.size cap L b wr) := hg
          clear hg
          go_wp2_with fail
          refine (awake_spec wr HG.out.rules).mono ?_
          rintro e w5 ⟨rfl, hB⟩
          have HB : Hid (Below w.heap.size w w5) := HG.out.below.trans (hB.mono HG.out.below.size)
          clear hB
          go_wp2
          go_ret
          exact ⟨rfl, HB.out⟩

theorem door_met (os : Os) (args : Array Value) : laidMetH Tryd.prog Rows.sumsSpoiltRow.laid ((World.doorLaid Tryd.prog 400 os).forCall (fun _ _ => 0) ⟨#[], args, []⟩).memory :=
  laidMetH_of_parts3 (fuel := 8) (laidMet_of_run' 8 (by kernel_rfl) (by kernel_rfl)) (by kernel_rfl) (by kernel_rfl)

set_option maxRecDepth 100000 in
theorem lifted (os : Os) (started : os.Started) (H : Type) (enc : TypeId × Value → H) :
    ReturnsInHanded {} Tryd.checked os 5 .any (fun w args => (Rows.sumsSpoiltSpec.pre enc Tryd.prog Tryd.f5 [] false w args ∧ laidMetH Tryd.prog Rows.sumsSpoiltRow.laid w) ∧ sizedMet enc Tryd.prog Tryd.f5 (OpenSpec.ofChange Rows.sumsSpoiltSpec) false w args)
      (Rows.sumsSpoiltSpec.post enc Tryd.prog Tryd.f5 false true false false) := by
  refine returnsInHanded_of_change_and (C := Tryd.checked) (X := fun w _ => laidMetH Tryd.prog Rows.sumsSpoiltRow.laid w) (fun _ _ _ hh h => h.of_heap hh) own started (by kernel_rfl) Tryd.func5
    (ChangeSpec.witness_shaped (enc := enc) (C := Tryd.checked) (os := os) (X := fun w _ => laidMetH Tryd.prog Rows.sumsSpoiltRow.laid w) false (World.doorLaid Tryd.prog 400 os) #[.string ByteArray.empty, .int .i64 0, .int .u8 0] 8 rfl (World.shaped_of_RefB (by kernel_rfl) (by kernel_rfl)) (by kernel_rfl) (by kernel_rfl) (by kernel_rfl) (door_met os _)) ?_
  intro W base args ds gs before hval0 hW _ hsz0 hL _
  have hval : ∀ (j : Nat) t v, Tryd.f5.params[j]? = some t → args[j]? = some v → Value.okWide Tryd.prog W .any base t v := hval0
  have hsz : (DataW.weightsEach Tryd.prog (Tryd.f5.params.toList ++ Rows.sumsSpoiltSpec.plain.varTypes Tryd.prog) (ds ++ gs)).all (· ≤ reachBytes) = true := hsz0
  have hW' := hW
  obtain ⟨p, q, hA0, hV, rfl, hfz, hnd⟩ := hW
  have hA : DataW.TrodAll enc Tryd.prog W 0 (fun _ => true) true Tryd.f5.params.toList args.toList ds p := hA0
  rw [Tryd.params5] at hA hval hsz
  obtain ⟨v0, vs0, d0, ds0, p0, q0, hargs, rfl, rfl, h0, r0⟩ := trodAll_cons hA
  obtain ⟨v1, vs1, d1, ds1, p1, q1, rfl, rfl, rfl, h1, r1⟩ := trodAll_cons r0
  obtain ⟨v2, vs2, d2, ds2, p2, q2, rfl, rfl, rfl, h2, r2⟩ := trodAll_cons r1
  obtain ⟨rfl, rfl, rfl⟩ := trodAll_nil r2
  obtain rfl : args = #[v0, v1, v2] := by cases args; simp_all
  obtain ⟨rfl, rfl⟩ := trodVars_none hV
  obtain ⟨s0, rfl, rfl, rfl, hs0⟩ := open_string Tryd.underlying9 (hval 0 9 v0 rfl rfl) h0
  have hq0 := sized_string hsz (j := 0) (t := 9) rfl rfl
  have hz0 : s0.size ≤ 140737488351232 := by
    have e : s0.data.toList.length = s0.size := by rw [Array.length_toList]; rfl
    rw [e] at hq0
    simp only [reachBytes] at hq0
    omega
  obtain ⟨a1, rfl, rfl, rfl, w1⟩ := open_int Tryd.underlying3 (hval 1 3 v1 rfl rfl) h1
  have b1 := bounds_i64 w1
  obtain ⟨a2, rfl, rfl, rfl, w2⟩ := open_int Tryd.underlying5 (hval 2 5 v2 rfl rfl) h2
  have b2 := bounds_u8 w2
  clear hA0 hval0
  refine (walk s0 hz0 a1 b1.1 b1.2 a2 b2.1 b2.2 W (rules_of_laid hL)).mono fun e W' ⟨he, bel⟩ => ?_
  subst he
  exact ⟨_, rfl, _, _, _, [], _, [], hW', trodAll_mk1 (shut_bool Tryd.underlying4 _), (trodAll_cons_mk (shut_string Tryd.underlying9 hs0) (trodAll_cons_mk (shut_int Tryd.underlying3 w1) (trodAll_cons_mk (shut_int Tryd.underlying5 w2) trodAll_mk0))), rfl, bel.frame _, fun h => by cases h⟩

theorem said : Rows.SumsSpoiltSaid :=
  OpenClaim.holds_of_wide 5 Tryd.f5 rfl rfl rfl rfl rfl rfl rfl ⟨rfl, rfl, rfl, rfl, rfl⟩ rfl rfl rfl rfl rfl (by kernel_rfl) Tryd.func5 (by kernel_rfl)
    (of_decide_eq_true (by kernel_rfl)) (by unfold Func.isWrapper; first | (rw [if_pos (by decide +kernel)]; kernel_rfl) | (rw [if_neg (by decide +kernel)]; exact ⟨rfl, rfl⟩))
    (fun os started H enc _ => lifted os started H enc)

/-- No parameter wants a stand-in; the program's own looks are off. -/
theorem plain (f : FuncId) (fn : Func) (hf : Tryd.pinned.checked.prog.funcNamed Rows.sumsSpoiltRow.func = some f) (hfn : Tryd.pinned.checked.prog.funcs[f]? = some fn) :
    false = Tryd.pinned.checked.prog.looks [] ∧ ∀ (j : Nat) t, fn.params[j]? = some t → Tryd.pinned.checked.prog.wantsStandIn t = false := by
  obtain rfl : f = 5 := Option.some.inj ((show Tryd.prog.funcNamed Rows.sumsSpoiltRow.func = some 5 by kernel_rfl).symm.trans hf) |>.symm
  obtain rfl : fn = Tryd.f5 := (Option.some.inj (Tryd.func5.symm.trans hfn)).symm
  refine ⟨by kernel_rfl, fun j t ht => ?_⟩
  rw [Tryd.params5] at ht
  have hm := Array.mem_of_getElem? ht
  simp at hm
  rcases hm with rfl | rfl | rfl
  · exact (show Tryd.prog.wantsStandIn 9 = false by kernel_rfl)
  · exact (show Tryd.prog.wantsStandIn 3 = false by kernel_rfl)
  · exact (show Tryd.prog.wantsStandIn 5 = false by kernel_rfl)

theorem card : Rows.SumsSpoiltCardSaid :=
  Claim7.holds_tied_plain_at .later [] _ _ _ _ said (fun _ h => by cases h) (by kernel_rfl) (fun _ h => by cases h) sumsSpoilt_row_tie rfl ⟨rfl, rfl⟩ (by kernel_rfl) rfl plain (by kernel_rfl)

end Go.Proofs.YtdmgkgomldjnhaaDoor.sumsSpoilt
namespace Go.Proofs.YtdmgkgomldjnhaaDoor
theorem sumsSpoilt_card : Rows.SumsSpoiltCardSaid := sumsSpoilt.card
#print axioms sumsSpoilt_card
end Go.Proofs.YtdmgkgomldjnhaaDoor
