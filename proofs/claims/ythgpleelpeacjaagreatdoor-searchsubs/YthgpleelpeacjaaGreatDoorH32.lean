/- Own text. -/
import Derived.Test.YthgpleelpeacjaaGreatDoorH31
import Derived.Test.YthgpleelpeacjaaGreatDoorH12
import Derived.ProofKit
import Derived.OpenShut
import Derived.Deep.Slices
import Derived.Lib.SmallJoins
import Derived.ChangeSlices
import Derived.Deep.Matrix
set_option linter.unusedSimpArgs false
set_option linter.unusedVariables false
set_option maxRecDepth 20000
set_option maxHeartbeats 12800000
namespace Go.Proofs.YthgpleelpeacjaaGreatDoor
open Go.RowKit
theorem and_mask (a k : Nat) (ha : a < 18446744073709551616) (hk : k ≤ 31) : bits BinOp.and IntKind.u64 (a : Int) ((2 ^ k - 1 : Nat) : Int) = ((a % 2 ^ k : Nat) : Int) := by
 have hp2 : 2 ^ k ≤ 2147483648 := Nat.le_trans (Nat.pow_le_pow_right (by decide) hk) (by decide)
 rw [bits_and_u64_nat a _ ha (by omega), Nat.and_two_pow_sub_one_eq_mod]
theorem shrL_len (l : List Int) (k : Nat) : (shrL l k).length = l.length := List.length_map ..
theorem qshift_spec (l : List Int) (k : Int) (la : Option Addr) (lc : Nat) (w : World) (hl : IntsAt w la l) : Calls Tryz.prog 74 #[.slice la l.length lc, .int .i64 k] w (RetM (shfR l k) w) := by
 have hln := hl.len
 by_cases h1 : k < 0
 ·have HR : Hid (shfR l k = none) := by show _ = _; unfold shfR; rw [if_neg (fun h => by omega)]
  have hF : shB k = false := by
   cases h : shB k with
   | false => rfl
   | true => rw [shB_iff] at h; omega
  have ks := fun wx => qsh_spec k wx
  rw [hF] at ks
  go_enter Tryz.func74, Tryz.ntmps74
  go_wp2_with fail
  go_quiet ((go_at_call 139; exact Calls.quiet_of_same (ks _)))
  go_wp2_with fail
  go_ret2
  exact retM_none HR.out rfl (below_drewN _ _)
 ·skip
  by_cases h2 : 31 < k
  ·have HR : Hid (shfR l k = none) := by show _ = _; unfold shfR; rw [if_neg (fun h => by omega)]
   have hF : shB k = false := by
    cases h : shB k with
    | false => rfl
    | true => rw [shB_iff] at h; omega
   have ks := fun wx => qsh_spec k wx
   rw [hF] at ks
   go_enter Tryz.func74, Tryz.ntmps74
   go_wp2_with fail
   go_quiet ((go_at_call 139; exact Calls.quiet_of_same (ks _)))
   go_wp2_with fail
   go_ret2
   exact retM_none HR.out rfl (below_drewN _ _)
  ·skip
   obtain ⟨k', rfl⟩ : ∃ k' : Nat, k = (k' : Int) := ⟨k.toNat, by omega⟩
   have hk31 : k' ≤ 31 := by omega
   have hk32 : (k' : Int) ≤ 31 := by omega
   have hF : shB (k' : Int) = true := by rw [shB_iff]; omega
   have ks := fun wx => qsh_spec (k' : Int) wx
   rw [hF] at ks
   have kg := fun n => qgather_spec l la lc (w.drewN n) (hl.drewN n)
   have hor := orN_lt l l.length
   have hmask := and_mask (orN l l.length) k' hor hk31
   have HDV : Hid (dvB l k' = true ↔ orN l l.length % 2 ^ k' = 0) := dvB_or l k' (by omega)
   have hp1 : 1 ≤ 2 ^ k' := Nat.one_le_two_pow
   have hp2 : 2 ^ k' ≤ 2147483648 := Nat.le_trans (Nat.pow_le_pow_right (by decide) hk31) (by decide)
   have hpw : (2 : Int) ^ k' = ((2 ^ k' : Nat) : Int) := by simp
   have HLL : Hid ((shrL l k').length = l.length) := shrL_len l k'
   have HRG : Hid (Rng (shrL l k')) := shrL_rng l k' hl.num
   have HAT : Hid (∀ i, (shrL l k').getD i 0 = l.getD i 0 / 2 ^ k') := fun i => getD_shr l k' i
   have hmk := make_ints l.length hln
   have HFM : Hid (∀ wx, Fill wx wx.heap.size (shrL l k') 0 (wx.alloc (.cells (madeCells #[.int .i64 0] l.length) 3))) := fun wx => by
    have := Fill.made wx wx (Below.refl _ _) (shrL l k')
    rw [shrL_len] at this; exact this
   have HL0 : Hid (∀ n, IntsAt (w.drewN n) la l) := fun n => hl.drewN n
   clear hl hF
   obtain ⟨a, ha⟩ : ∃ a, a = orN l l.length := ⟨_, rfl⟩
   rw [← ha] at hor hmask HDV kg
   clear ha
   by_cases h0 : a % 2 ^ k' = 0
   ·have hd := HDV.out.2 h0
    have HR : Hid (shfR l (k' : Int) = some (shrL l k')) := by show _ = _; unfold shfR; rw [if_pos ⟨by omega, by rw [Int.toNat_natCast]; exact hd⟩]; rfl
    rw [h0] at hmask
    clear hd h0 HDV
    generalize shrL l k' = L at *
    obtain ⟨M, hM⟩ : ∃ M : Nat, M = 2 ^ k' - 1 := ⟨_, rfl⟩
    have hM2 : ((2 ^ k' : Nat) : Int) - 1 = (M : Int) := by omega
    have hM3 : M ≤ 2147483647 := by omega
    rw [← hM] at hmask
    clear hM
    generalize hNN : 2 ^ k' = N at hp1 hp2 hpw hM2
    clear hNN
    go_enter Tryz.func74, Tryz.ntmps74
    go_wp2_with fail
    go_quiet (first | (go_at_call 139; exact Calls.quiet_of_same (ks _)) | (go_at_call 137; exact Calls.quiet_of_same (kg _)))
    have hb2 : Below w.heap.size w (w.drewN nq) := below_drewN _ _
    have HL : Hid (IntsAt (w.drewN nq) la l) := HL0.out nq
    clear kg ks HL0
    generalize w.drewN nq = w2 at *
    have HB2 : Hid (Below w.heap.size w w2) := hb2
    clear hb2
    go_wp2_with fail
    generalize hwa : World.alloc _ _ = wa at *
    have HA : Hid (Fill w2 w2.heap.size L 0 wa) := by rw [← hwa]; exact HFM.out w2
    have HS : True := trivial
    have HM : True := trivial
    clear hwa hmk HFM hmask hp1 hp2 hpw hM2 hM3
    clear HS HM
    go_loopw [7, 8, 26] (fun s7 s8 s26 wr => ∃ i : Nat, i ≤ l.length ∧ s26 = .int .i64 (i : Int) ∧ Fill w2 w2.heap.size L i wr) (fun _ _ s26 _ => l.length - (intOf s26).toNat)
    case atStart => exact ⟨0, Nat.zero_le _, rfl, HA.out⟩
    case round =>
     clear HA
     obtain ⟨i, hi, rfl, hf⟩ := hrel
     have HA : Hid (Fill w2 w2.heap.size L i wr) := hf
     clear hf
     by_cases hlt : i < l.length
     ·obtain ⟨b1, o1, rfl, q1⟩ := HL.out.at i hlt
      have r1 := q1 wr HA.out.below
      have hxr := HL.out.rng i
      have y5 := HA.out.cell i (by rw [HLL.out]; exact hlt)
      have z5 := HA.out.frozen i
      have hv := HAT.out i
      have HNX : Hid (Fill w2 w2.heap.size L (i + 1) (wr.setCell ⟨w2.heap.size, i, none⟩ (.int .i64 (L.getD i 0)))) := HA.out.set (by rw [HLL.out]; exact hlt)
      rw [hv] at HNX
      clear q1 HA hv
      generalize l.getD i 0 = x at *
      generalize (if i < i then L.getD i 0 else 0) = v5 at *
      go_wp2_with fail
      go_roundw
      case rel => exact ⟨i + 1, by omega, by go_num, HNX.out⟩
      case measure => simp [intOf]; omega
     ·have hin : i = l.length := by omega
      subst hin
      have HI : Hid (Made w2 (some ⟨w2.heap.size, 0, none⟩) l.length L wr) := Made.of_fill (by rw [HLL.out]; exact HA.out) (by rw [HLL.out]; exact Nat.le_refl _) (by rw [HLL.out]; omega) HRG.out
      clear HA
      go_wp2_with fail
      go_ret2
      exact retM_some (la := some ⟨w2.heap.size, 0, none⟩) (lc := l.length) HR.out (by rw [HLL.out]; rfl) (HI.out.up HB2.out)
   ·have hd : dvB l k' = false := by
     cases h : dvB l k' with
     | false => rfl
     | true => exact absurd (HDV.out.1 h) h0
    have HR : Hid (shfR l (k' : Int) = none) := by show _ = _; unfold shfR; rw [if_neg (fun h => by have h2 := h.2; rw [Int.toNat_natCast, hd] at h2; cases h2)]
    obtain ⟨r, hr⟩ : ∃ r : Nat, r = a % 2 ^ k' := ⟨_, rfl⟩
    rw [← hr] at hmask h0
    have hbn : ((r : Int) != 0) = true := by rw [bne_iff_ne]; omega
    clear hd h0 HDV hr
    obtain ⟨M, hM⟩ : ∃ M : Nat, M = 2 ^ k' - 1 := ⟨_, rfl⟩
    have hM2 : ((2 ^ k' : Nat) : Int) - 1 = (M : Int) := by omega
    have hM3 : M ≤ 2147483647 := by omega
    rw [← hM] at hmask
    clear hM
    generalize hNN : 2 ^ k' = N at hp1 hp2 hpw hM2
    clear hNN
    go_enter Tryz.func74, Tryz.ntmps74
    go_wp2_with fail
    go_quiet (first | (go_at_call 139; exact Calls.quiet_of_same (ks _)) | (go_at_call 137; exact Calls.quiet_of_same (kg _)))
    have hb2 : Below w.heap.size w (w.drewN nq) := below_drewN _ _
    clear kg ks HL0
    generalize w.drewN nq = w2 at *
    have HB2 : Hid (Below w.heap.size w w2) := hb2
    clear hb2
    go_wp2_with fail
    go_ret2
    exact retM_none HR.out rfl HB2.out
theorem CdAt.set {X X' : World} {n : Nat} {e : Cd} (h : CdAt X e) (hf : FrC (n + 1) e) (hk : ∀ k, n < k → X'.heap[k]? = X.heap[k]?) : CdAt X' e := by
 refine ⟨by rw [hk _ hf.g]; exact h.box, ⟨ints_set h.sb.C hf.c hk, ⟨ints_set h.sb.R.P hf.p hk, ints_set h.sb.R.E hf.e hk, h.sb.R.m1, h.sb.R.m2, h.sb.R.o1, h.sb.R.o2⟩, h.sb.k, h.sb.o, h.sb.w, h.sb.p, h.sb.h⟩, h.cap⟩
theorem cds_best (lv v : Int) (l : List Int) (L : List Cd) (h : L.map cdP = cdL lv (wasN l : Int) v l (shrL l (wasN l)) (trL lv (wasN l : Int)).length) : ∃ e0, L[0]? = some e0 ∧ L.length ≤ 10 ∧ sbR lv v l = some (cdP (shoD e0 L)) ∧ shoD e0 L ∈ L := by
 have hlen : L.length ≤ 10 := by
  have h1 := congrArg List.length h
  have h2 := cdL_len lv (wasN l : Int) v l (shrL l (wasN l)) (trL lv (wasN l : Int)).length
  rw [List.length_map] at h1
  omega
 cases hL : L with
 | nil =>
  obtain ⟨a, ha⟩ := sbR_some lv v l
  rw [sbR_sh, cdL_all, ← h, hL] at ha
  cases ha
 | cons e0 t =>
  rw [← hL]
  refine ⟨e0, by rw [hL]; rfl, hlen, ?_, ?_⟩
  ·rw [sbR_sh, cdL_all, ← h, sh_none _ (cdP e0) (t.map cdP) (by rw [hL]; rfl), shoD_P]
  ·rcases shoD_mem L e0 with h1 | h1
   ·rw [h1, hL]; exact List.mem_cons_self ..
   ·exact h1
theorem z_channel (l : List Int) (lo : Option Addr) (lc : Nat) (v lv : Int) (hlv : 0 ≤ lv ∧ lv ≤ 2) (hv : 1 ≤ v ∧ v ≤ 33) (hn1 : 1 ≤ l.length) (hn2 : l.length ≤ 65535) (hfit : ∀ x ∈ l, sigE x v = 0) (w : World) (hT : Tz w) (hl : IntsAt w lo l) : Calls Tryz.prog 28 #[.slice lo l.length lc, .int .i64 v, .int .i64 lv] w fun e w' => ∃ x : Cd, e = .returned (.agg (cdV x)) ∧ sbR lv v l = some (x.q, x.n) ∧ CdAt w' x ∧ FrC w.heap.size x ∧ Below w.heap.size w w' := by
 have hwv := was_lt l v hv.1 hfit
 have hw31 := wasN_le l
 have KW : Hid (∀ wx, Below w.heap.size w wx → Calls Tryz.prog 73 #[.slice lo l.length lc] wx fun e w' => e = .returned (.int .i64 (wasN l : Int)) ∧ Below wx.heap.size wx w') := fun wx hb => qwasted_spec l lo lc wx (hT.below hb) (hl.below hb)
 have KS : Hid (∀ wx, Below w.heap.size w wx → Calls Tryz.prog 74 #[.slice lo l.length lc, .int .i64 (wasN l : Int)] wx fun e w' => ∃ la lb, e = .returned (.tuple #[.slice la (shrL l (wasN l)).length lb, .int .i64 0]) ∧ Made wx la lb (shrL l (wasN l)) w') := fun wx hb => by
  have k := qshift_spec l (wasN l : Int) lo lc wx (hl.below hb)
  have e : shfR l (wasN l : Int) = some (shrL l (wasN l)) := by
   unfold shfR
   rw [Int.toNat_natCast, if_pos ⟨by omega, wasN_dvB l⟩]
  rw [e] at k
  exact k
 have KC : Hid (∀ wx la lb, Made wx la lb (shrL l (wasN l)) wx → False) ∨ True := Or.inr trivial
 have KD : Hid (∀ (wx w0 : World) (la : Option Addr) (lb : Nat), Made w0 la lb (shrL l (wasN l)) wx → Calls Tryz.prog 76 #[.slice la (shrL l (wasN l)).length lb, .int .i64 (v - (wasN l : Int)), .int .i64 (wasN l : Int), .int .i64 lv] wx fun e w' => ∃ so cap L, e = .returned (.slice so L.length cap) ∧ CL wx (.slice so L.length cap) L w' ∧ L.map cdP = cdL lv (wasN l : Int) v l (shrL l (wasN l)) (trL lv (wasN l : Int)).length) := fun wx w0 la lb hm => by
  have k := z_codings l v lv hlv hv hn1 hn2 hfit la lb hm.cap_ wx hm.ints
  rw [show ((v.toNat - wasN l : Nat) : Int) = v - (wasN l : Int) by omega] at k
  exact k
 have HB0 : Hid (Below w.heap.size w (w.alloc (.cells #[.int .i64 0, .slice none 0 0, .int .i64 0] 63))) := (Below.refl _ _).alloc (Nat.le_refl _) _
 have HR0 : Hid ((w.alloc (.cells #[.int .i64 0, .slice none 0 0, .int .i64 0] 63)).heap[w.heap.size]? = some (.cells #[.int .i64 0, .slice none 0 0, .int .i64 0] 63 (0, 0))) := heap_alloc_new _ _
 clear KC hlv hn1 hn2 hfit hT hl
 go_enter Tryz.func28, Tryz.ntmps28
 go_wp2_with fail
 generalize hwa : World.alloc _ _ = wa at *
 clear hwa
 refine (KW.out wa HB0.out).mono ?_
 rintro e w2 ⟨rfl, hb2⟩
 have HB2 : Hid (Below w.heap.size w w2) := HB0.out.trans (hb2.mono HB0.out.size)
 have HR2 : Hid (w2.heap[w.heap.size]? = some (.cells #[.int .i64 0, .slice none 0 0, .int .i64 0] 63 (0, 0))) := by show _ = _; rw [hb2.block _ (lt_of_block HR0.out)]; exact HR0.out
 clear hb2 HB0 HR0 KW
 go_wp2_with fail
 refine (KS.out w2 HB2.out).mono ?_
 rintro e w3 ⟨la, lb, rfl, hm3⟩
 have hb3 := hm3.below
 have HB3 : Hid (Below w.heap.size w w3) := HB2.out.trans (hb3.mono HB2.out.size)
 have HR3 : Hid (w3.heap[w.heap.size]? = some (.cells #[.int .i64 0, .slice none 0 0, .int .i64 0] 63 (0, 0))) := by show _ = _; rw [hb3.block _ (lt_of_block HR2.out)]; exact HR2.out
 have HM3 : Hid (Made w2 la lb (shrL l (wasN l)) w3) := hm3
 clear hb3 hm3 HB2 HR2 KS
 go_wp2_with fail
 refine (KD.out w3 w2 la lb HM3.out).mono ?_
 rintro e w4 ⟨so, cap, L, rfl, hcl, hmap⟩
 obtain ⟨e0, he0, hL10, hbest, hmem⟩ := cds_best lv v l L hmap
 have hL0 : 0 < L.length := List.length_pos_of_mem hmem
 obtain ⟨b, cap', hv', hle, hcds⟩ := hcl.cds hL0
 cases hv'
 have hb4 := hcl.below
 have HB4 : Hid (Below w.heap.size w w4) := HB3.out.trans (hb4.mono HB3.out.size)
 have HR4 : Hid (w4.heap[w.heap.size]? = some (.cells #[.int .i64 0, .slice none 0 0, .int .i64 0] 63 (0, 0))) := by show _ = _; rw [hb4.block _ (lt_of_block HR3.out)]; exact HR3.out
 have HX4 : Hid (CdAt w4 (shoD e0 L)) := (hcl.at_ _ hmem).at_
 have HF4 : Hid (FrC (w.heap.size + 1) (shoD e0 L)) := (hcl.fr _ hmem).mono (lt_of_block HR3.out)
 have KH := z_shortest L e0 he0 (by omega) b 0 cap w4 hcds
 have HBE : Hid (sbR lv v l = some (cdP (shoD e0 L))) := hbest
 clear hcl hmap he0 hL10 hbest hmem hL0 hle hcds hb4 HB3 HR3 HM3 KD
 generalize shoD e0 L = x at *
 go_wp2_with fail
 refine KH.mono ?_
 rintro e w5 ⟨rfl, hb5⟩
 have HB5 : Hid (Below w.heap.size w w5) := HB4.out.trans (hb5.mono HB4.out.size)
 have HR5 : Hid (w5.heap[w.heap.size]? = some (.cells #[.int .i64 0, .slice none 0 0, .int .i64 0] 63 (0, 0))) := by show _ = _; rw [hb5.block _ (lt_of_block HR4.out)]; exact HR4.out
 have HX5 : Hid (CdAt w5 x) := HX4.out.below hb5
 clear hb5 HB4 HR4 HX4 KH
 obtain ⟨u0, u1, u2⟩ := cod_cells HR5.out
 have fz0 := row_frozen HR5.out 0
 have fz1 := row_frozen HR5.out 1
 have fz2 := row_frozen HR5.out 2
 go_wp2_with fail
 generalize hwf : World.setCell _ _ _ = wf
 have hrow : wf.heap[w.heap.size]? = some (.cells (cdV x) 63 (0, 0)) := by rw [← hwf]; exact s3c_a _ _ _ _ HR5.out
 have hbel : Below w.heap.size w wf := by rw [← hwf]; exact s3c_b _ _ _ _ w (Nat.le_refl _) HB5.out
 have hat : CdAt wf x := HX5.out.set HF4.out (fun k hk => by rw [← hwf]; exact s3c_d _ _ _ _ k (by omega))
 refine bodyPost_ret (v := .agg (cdV x)) ?_ rfl ⟨x, rfl, HBE.out, hat, HF4.out.mono (Nat.le_succ _), hbel⟩
 rw [results_one rfl]
 have hld := run_loadVar_row (P := Tryz.prog) (wf) (w.heap.size) 63 63 (cdV x) (0, 0) _ hrow Tryz.underlying63 rfl info_coding
 simp [asAddr, Result.andThen, hld]
def SubP (lv v : Int) (l : List Int) (w : World) (e : Ending) (w' : World) : Prop := ∃ q n ca cc pa pc ea ec, sbR lv v l = some (q, n) ∧ e = .returned (.tuple #[subV q ca cc pa pc ea ec, .int .i64 ((n : Nat) : Int)]) ∧ SbAt w' q ca pa ea ∧ Below w.heap.size w w'
theorem z_Sub_no (l : List Int) (lo : Option Addr) (lc : Nat) (v lv : Int) (hno : ¬ ((0 ≤ lv ∧ lv ≤ 2) ∧ (1 ≤ v ∧ v ≤ 33) ∧ (1 ≤ l.length ∧ l.length ≤ 65535) ∧ ∀ x ∈ l, sigE x v = 0)) (w : World) (hl : IntsAt w lo l) : Calls Tryz.prog 8 #[.slice lo l.length lc, .int .i64 v, .int .i64 lv] w fun e w' => e = .returned (.tuple #[.agg (subC ⟨0, 0, 0, 0, 0, [], R00⟩ none 0 none 0 none 0), .int .i64 (-1)]) ∧ Below w.heap.size w w' := by
 have HB0 : Hid (Below w.heap.size w (w.alloc (.cells (subC ⟨0, 0, 0, 0, 0, [], R00⟩ none 0 none 0 none 0) 27))) := (Below.refl _ _).alloc (Nat.le_refl _) _
 have HR0 : Hid ((w.alloc (.cells (subC ⟨0, 0, 0, 0, 0, [], R00⟩ none 0 none 0 none 0) 27)).heap[w.heap.size]? = some (.cells (subC ⟨0, 0, 0, 0, 0, [], R00⟩ none 0 none 0 none 0) 27 (0, 0))) := heap_alloc_new _ _
 by_cases h0 : 0 ≤ lv ∧ lv ≤ 2
 ·have KI := fun wx => z_isLevel lv true (tt_iff h0) wx
  have KM : Hid (∀ wx, Below w.heap.size w wx → Calls Tryz.prog 27 #[.slice lo l.length lc, .int .i64 v] wx fun e w' => e = .returned (.bool false) ∧ w' = wx) := fun wx hb => z_mayBe l lo lc v false (ff_iff (fun h => hno ⟨h0, h⟩)) wx (hl.below hb)
  clear hno h0 hl
  go_enter Tryz.func8, Tryz.ntmps8
  go_wp2_with fail
  generalize hwa : World.alloc _ _ = wa at *
  clear hwa
  refine (KI wa).mono ?_
  rintro e w2 ⟨rfl, hw2⟩
  subst hw2
  clear KI
  go_wp2_with fail
  refine (KM.out w2 HB0.out).mono ?_
  rintro e w3 ⟨rfl, hw3⟩
  subst hw3
  clear KM
  obtain ⟨x0, x1, x2, x3, x4, x5, x6, x7, x8, x9⟩ := sub_cells HR0.out
  have fz0 := row_frozen HR0.out 0
  have fz1 := row_frozen HR0.out 1
  have fz2 := row_frozen HR0.out 2
  have fz3 := row_frozen HR0.out 3
  have fz4 := row_frozen HR0.out 4
  have fz5 := row_frozen HR0.out 5
  have fz6 := row_frozen HR0.out 6
  have fz7 := row_frozen HR0.out 7
  have fz8 := row_frozen HR0.out 8
  have fz9 := row_frozen HR0.out 9
  go_wp2_with fail
  generalize hwf : World.setCell _ _ _ = wf
  have hrow : wf.heap[w.heap.size]? = some (.cells (subC ⟨0, 0, 0, 0, 0, [], R00⟩ none 0 none 0 none 0) 27 (0, 0)) := by rw [← hwf]; exact set10_a _ _ _ _ _ _ _ _ _ _ _ HR0.out
  have hbel : Below w.heap.size w wf := by rw [← hwf]; exact set10_b _ _ _ _ _ _ _ _ _ _ _ w (Nat.le_refl _) HB0.out
  refine bodyPost_ret (v := .tuple #[.agg (subC ⟨0, 0, 0, 0, 0, [], R00⟩ none 0 none 0 none 0), .int .i64 (-1)]) ?_ rfl ⟨rfl, hbel⟩
  rw [results_two rfl]
  have hld := run_loadVar_row (P := Tryz.prog) (wf) (w.heap.size) 27 27 (subC ⟨0, 0, 0, 0, 0, [], R00⟩ none 0 none 0 none 0) (0, 0) _ hrow Tryz.underlying27 rfl info_Sub
  simp [asAddr, Result.andThen, hld]
 ·have KI := fun wx => z_isLevel lv false (ff_iff h0) wx
  clear hno h0 hl
  go_enter Tryz.func8, Tryz.ntmps8
  go_wp2_with fail
  generalize hwa : World.alloc _ _ = wa at *
  clear hwa
  refine (KI wa).mono ?_
  rintro e w2 ⟨rfl, hw2⟩
  subst hw2
  clear KI
  obtain ⟨x0, x1, x2, x3, x4, x5, x6, x7, x8, x9⟩ := sub_cells HR0.out
  have fz0 := row_frozen HR0.out 0
  have fz1 := row_frozen HR0.out 1
  have fz2 := row_frozen HR0.out 2
  have fz3 := row_frozen HR0.out 3
  have fz4 := row_frozen HR0.out 4
  have fz5 := row_frozen HR0.out 5
  have fz6 := row_frozen HR0.out 6
  have fz7 := row_frozen HR0.out 7
  have fz8 := row_frozen HR0.out 8
  have fz9 := row_frozen HR0.out 9
  go_wp2_with fail
  generalize hwf : World.setCell _ _ _ = wf
  have hrow : wf.heap[w.heap.size]? = some (.cells (subC ⟨0, 0, 0, 0, 0, [], R00⟩ none 0 none 0 none 0) 27 (0, 0)) := by rw [← hwf]; exact set10_a _ _ _ _ _ _ _ _ _ _ _ HR0.out
  have hbel : Below w.heap.size w wf := by rw [← hwf]; exact set10_b _ _ _ _ _ _ _ _ _ _ _ w (Nat.le_refl _) HB0.out
  refine bodyPost_ret (v := .tuple #[.agg (subC ⟨0, 0, 0, 0, 0, [], R00⟩ none 0 none 0 none 0), .int .i64 (-1)]) ?_ rfl ⟨rfl, hbel⟩
  rw [results_two rfl]
  have hld := run_loadVar_row (P := Tryz.prog) (wf) (w.heap.size) 27 27 (subC ⟨0, 0, 0, 0, 0, [], R00⟩ none 0 none 0 none 0) (0, 0) _ hrow Tryz.underlying27 rfl info_Sub
  simp [asAddr, Result.andThen, hld]
theorem z_Sub_yes (l : List Int) (lo : Option Addr) (lc : Nat) (v lv : Int) (hlv : 0 ≤ lv ∧ lv ≤ 2) (hv : 1 ≤ v ∧ v ≤ 33) (hn1 : 1 ≤ l.length) (hn2 : l.length ≤ 65535) (hfit : ∀ x ∈ l, sigE x v = 0) (w : World) (hT : Tz w) (hl : IntsAt w lo l) : Calls Tryz.prog 8 #[.slice lo l.length lc, .int .i64 v, .int .i64 lv] w (SubP lv v l w) := by
 have HB0 : Hid (Below w.heap.size w (w.alloc (.cells (subC ⟨0, 0, 0, 0, 0, [], R00⟩ none 0 none 0 none 0) 27))) := (Below.refl _ _).alloc (Nat.le_refl _) _
 have HR0 : Hid ((w.alloc (.cells (subC ⟨0, 0, 0, 0, 0, [], R00⟩ none 0 none 0 none 0) 27)).heap[w.heap.size]? = some (.cells (subC ⟨0, 0, 0, 0, 0, [], R00⟩ none 0 none 0 none 0) 27 (0, 0))) := heap_alloc_new _ _
 have KI := fun wx => z_isLevel lv true (tt_iff hlv) wx
 have KM : Hid (∀ wx, Below w.heap.size w wx → Calls Tryz.prog 27 #[.slice lo l.length lc, .int .i64 v] wx fun e w' => e = .returned (.bool true) ∧ w' = wx) := fun wx hb => z_mayBe l lo lc v true (tt_iff ⟨hv, ⟨hn1, hn2⟩, hfit⟩) wx (hl.below hb)
 have KC : Hid (∀ wx, Below w.heap.size w wx → Calls Tryz.prog 28 #[.slice lo l.length lc, .int .i64 v, .int .i64 lv] wx fun e w' => ∃ x : Cd, e = .returned (.agg (cdV x)) ∧ sbR lv v l = some (x.q, x.n) ∧ CdAt w' x ∧ FrC wx.heap.size x ∧ Below wx.heap.size wx w') := fun wx hb => z_channel l lo lc v lv hlv hv hn1 hn2 hfit wx (hT.below hb) (hl.below hb)
 clear hlv hv hn1 hn2 hfit hT hl
 go_enter Tryz.func8, Tryz.ntmps8
 go_wp2_with fail
 generalize hwa : World.alloc _ _ = wa at *
 clear hwa
 refine (KI wa).mono ?_
 rintro e w2 ⟨rfl, hw2⟩
 subst hw2
 clear KI
 go_wp2_with fail
 refine (KM.out w2 HB0.out).mono ?_
 rintro e w3 ⟨rfl, hw3⟩
 subst hw3
 clear KM
 go_wp2_with fail
 refine (KC.out _ HB0.out).mono ?_
 rintro e w4 ⟨x, rfl, hx, hat, hfr, hb4⟩
 have HXE : Hid (sbR lv v l = some (x.q, x.n)) := hx
 have hbd : Below w.heap.size w (w4.alloc (.cells #[.int .i64 0, .slice (some ⟨x.g, 0, none⟩) 1 1, .int .i64 (x.n : Int)] 63)) := (HB0.out.trans (hb4.mono HB0.out.size)).alloc (Nat.le_trans HB0.out.size hb4.size) _
 have HB5 : Hid (Below w.heap.size w (w4.alloc (.cells #[.int .i64 0, .slice (some ⟨x.g, 0, none⟩) 1 1, .int .i64 (x.n : Int)] 63))) := hbd
 have HR5 : Hid ((w4.alloc (.cells #[.int .i64 0, .slice (some ⟨x.g, 0, none⟩) 1 1, .int .i64 (x.n : Int)] 63)).heap[w.heap.size]? = some (.cells (subC ⟨0, 0, 0, 0, 0, [], R00⟩ none 0 none 0 none 0) 27 (0, 0))) := by show _ = _; rw [Below.block ((Below.refl _ _).alloc (Nat.le_refl _) _) _ (Nat.lt_of_lt_of_le (lt_of_block HR0.out) hb4.size), hb4.block _ (lt_of_block HR0.out)]; exact HR0.out
 have HX5 : Hid (CdAt (w4.alloc (.cells #[.int .i64 0, .slice (some ⟨x.g, 0, none⟩) 1 1, .int .i64 (x.n : Int)] 63)) x) := hat.below ((Below.refl _ _).alloc (Nat.le_refl _) _)
 have HC5 : Hid ((w4.alloc (.cells #[.int .i64 0, .slice (some ⟨x.g, 0, none⟩) 1 1, .int .i64 (x.n : Int)] 63)).heap[w4.heap.size]? = some (.cells #[.int .i64 0, .slice (some ⟨x.g, 0, none⟩) 1 1, .int .i64 (x.n : Int)] 63 (0, 0))) := heap_alloc_new _ _
 have HF5 : Hid (FrC (w.heap.size + 1) x) := hfr.mono (lt_of_block HR0.out)
 have hcn : w.heap.size < w4.heap.size := Nat.lt_of_lt_of_le (lt_of_block HR0.out) hb4.size
 clear hx hat hfr hb4 hbd HB0 HR0 KC
 go_upto_region 4 with fail
 generalize hw5 : World.alloc _ _ = w5 at *
 generalize hcb : w4.heap.size = cb at *
 clear hw5 hcb
 obtain ⟨c0, c1, c2⟩ := cod_cells HC5.out
 obtain ⟨x0, x1, x2, x3, x4, x5, x6, x7, x8, x9⟩ := sub_cells HR5.out
 obtain ⟨y0, y1, y2, y3, y4, y5, y6, y7, y8, y9⟩ := sub_cells HX5.out.box
 have fz0 := row_frozen HR5.out 0
 have fz1 := row_frozen HR5.out 1
 have fz2 := row_frozen HR5.out 2
 have fz3 := row_frozen HR5.out 3
 have fz4 := row_frozen HR5.out 4
 have fz5 := row_frozen HR5.out 5
 have fz6 := row_frozen HR5.out 6
 have fz7 := row_frozen HR5.out 7
 have fz8 := row_frozen HR5.out 8
 have fz9 := row_frozen HR5.out 9
 have hcn1 : ¬ cb = w.heap.size := by omega
 have hcn2 : ¬ w.heap.size = cb := by omega
 have hgn : ¬ x.g = w.heap.size := fun e => by have := HF5.out.g; omega
 have hgn2 : ¬ w.heap.size = x.g := fun e => by have := HF5.out.g; omega
 go_region
 go_wp2_with fail
 generalize hwf : World.setCell _ _ _ = wf
 have hrow : wf.heap[w.heap.size]? = some (.cells (subC x.q x.ca x.cc x.pa x.pc x.ea x.ec) 27 (0, 0)) := by rw [← hwf]; exact set10_a _ _ _ _ _ _ _ _ _ _ _ HR5.out
 have hbel : Below w.heap.size w wf := by rw [← hwf]; exact set10_b _ _ _ _ _ _ _ _ _ _ _ w (Nat.le_refl _) HB5.out
 have hat : CdAt wf x := HX5.out.set HF5.out (fun k hk => by rw [← hwf]; exact set10_d _ _ _ _ _ _ _ _ _ _ _ k (by omega))
 have hrow' : wf.drew.heap[w.heap.size]? = some (.cells (subC x.q x.ca x.cc x.pa x.pc x.ea x.ec) 27 (0, 0)) := hrow
 refine bodyPost_ret (v := .tuple #[.agg (subC x.q x.ca x.cc x.pa x.pc x.ea x.ec), .int .i64 (x.n : Int)]) ?_ rfl ⟨x.q, x.n, x.ca, x.cc, x.pa, x.pc, x.ea, x.ec, HXE.out, rfl, (hat.sb.below (Below.refl _ _).drew), hbel.drew⟩
 rw [results_two rfl]
 have hld := run_loadVar_row (P := Tryz.prog) (wf.drew) (w.heap.size) 27 27 (subC x.q x.ca x.cc x.pa x.pc x.ea x.ec) (0, 0) _ hrow' Tryz.underlying27 rfl info_Sub
 simp [asAddr, Result.andThen, hld]
abbrev fmC (f : Fm) (so : Option Addr) (sk : Nat) : Array Value := #[.bool f.v, .int .i64 f.num, .int .i64 f.size, .int .i64 f.sc, .int .i64 f.rc, .int .i64 f.wc, .int .i64 f.mo, .slice so f.S.length sk]
abbrev fmV (f : Fm) (so : Option Addr) (sk : Nat) : Value := .agg (fmC f so sk)
def SubIn (w : World) (b o : Nat) (q : Sb) (ca : Option Addr) (cc : Nat) (pa : Option Addr) (pc : Nat) (ea : Option Addr) (ec : Nat) : Prop := w.cell? ⟨b, o, none⟩ = some (.int .i64 q.k) ∧ w.cell? ⟨b, o + 1, none⟩ = some (.int .i64 q.o) ∧ w.cell? ⟨b, o + 2, none⟩ = some (.int .i64 q.w) ∧ w.cell? ⟨b, o + 3, none⟩ = some (.int .i64 q.p) ∧ w.cell? ⟨b, o + 4, none⟩ = some (.int .i64 q.h) ∧ w.cell? ⟨b, o + 5, none⟩ = some (.slice ca q.C.length cc) ∧ w.cell? ⟨b, o + 6, none⟩ = some (.int .i64 q.R.m) ∧ w.cell? ⟨b, o + 7, none⟩ = some (.int .i64 q.R.o) ∧ w.cell? ⟨b, o + 8, none⟩ = some (.slice pa q.R.P.length pc) ∧ w.cell? ⟨b, o + 9, none⟩ = some (.slice ea q.R.E.length ec)
theorem SubIn.keep {w w' : World} {b o : Nat} {q : Sb} {ca : Option Addr} {cc : Nat} {pa : Option Addr} {pc : Nat} {ea : Option Addr} {ec : Nat} (h : SubIn w b o q ca cc pa pc ea ec) (hb : w'.heap[b]? = w.heap[b]?) : SubIn w' b o q ca cc pa pc ea ec := by
 have e : ∀ j, w'.cell? ⟨b, j, none⟩ = w.cell? ⟨b, j, none⟩ := fun j => World.cell?_of_block (w := w) hb
 unfold SubIn at h ⊢
 simp only [e]
 exact h
structure SubsAt (w : World) (so : Option Addr) (S : List Sb) : Prop where
 len : S.length ≤ 1759218604441
 lies : 0 < S.length → ∃ b off, so = some ⟨b, off, none⟩ ∧ ∀ c, c < S.length → ∃ ca cc pa pc ea ec, SubIn w b (off + c * 10) (S.getD c Sb0) ca cc pa pc ea ec ∧ SbAt w (S.getD c Sb0) ca pa ea ∧ ((S.getD c Sb0).C.length ≤ cc ∧ (ca = none → cc = 0))
theorem SubsAt.below {w w' : World} {so : Option Addr} {S : List Sb} (h : SubsAt w so S) (hb : Below w.heap.size w w') : SubsAt w' so S := by
 refine ⟨h.len, fun h0 => ?_⟩
 obtain ⟨b, off, e, hc⟩ := h.lies h0
 refine ⟨b, off, e, fun c hl => ?_⟩
 obtain ⟨ca, cc, pa, pc, ea, ec, h1, h2, h3⟩ := hc c hl
 exact ⟨ca, cc, pa, pc, ea, ec, h1.keep (hb.block _ (lt_cell h1.1)), h2.below hb, h3⟩
theorem fm_cells {w : World} {g : Nat} {f : Fm} {so : Option Addr} {sk : Nat} (h : w.heap[g]? = some (.cells (fmC f so sk) 41 (0, 0))) :
  w.cell? ⟨g, 0, none⟩ = some (.bool f.v) ∧ w.cell? ⟨g, 1, none⟩ = some (.int .i64 f.num) ∧ w.cell? ⟨g, 2, none⟩ = some (.int .i64 f.size) ∧ w.cell? ⟨g, 3, none⟩ = some (.int .i64 f.sc) ∧ w.cell? ⟨g, 4, none⟩ = some (.int .i64 f.rc) ∧ w.cell? ⟨g, 5, none⟩ = some (.int .i64 f.wc) ∧ w.cell? ⟨g, 6, none⟩ = some (.int .i64 f.mo) ∧ w.cell? ⟨g, 7, none⟩ = some (.slice so f.S.length sk) := by
 refine ⟨?_, ?_, ?_, ?_, ?_, ?_, ?_, ?_⟩ <;> (rw [cell_of_row _ _ _ _ _ _ h]; rfl)
end Go.Proofs.YthgpleelpeacjaaGreatDoor
namespace Go.Proofs.YthgpleelpeacjaaGreatDoor
open Go.ChangeShapes Go.WideShapes Go.ChangeAt Go.RowKit Go.Deep
theorem acells3 : Tryz.prog.cellsOf 3 = 1 := by kernel_rfl
theorem abytes3 : Tryz.prog.bytesOf 3 = 8 := by kernel_rfl
section
variable {H : Type} {enc : TypeId × Value → H} {w : World} {base base2 : Nat} {held : Bool}
theorem at_spot {a : Addr} {v : Value} (h : w.cell? (a.add 0) = some v) : ∃ b off, a = ⟨b, off, none⟩ := by
 obtain ⟨b, off, spot⟩ := a
 cases spot with
 | none => exact ⟨b, off, rfl⟩
 | some x =>
  exfalso
  unfold Addr.add World.cell? at h
  split at h <;> simp at h
theorem open_row {fuel : Nat} {cs : List Value} {x : DataW H × List MemPlace} (h : DataW.trod enc Tryz.prog w base (fun _ => true) held fuel 22 cs = some x) (hw : ∀ n ∈ x.1.weights Tryz.prog 22, n ≤ reachBytes) :
  ∃ (ao : Option Addr) (cap : Nat) (l : List Int), cs = [.slice ao l.length cap] ∧ IntsAt w ao l ∧ l.length ≤ cap ∧ (ao = none → cap = 0) := by
 rcases open_ints Tryz.underlying22 Tryz.underlying3 acells3 h with ⟨rfl, rfl⟩ | ⟨a, len, cap, zs, rfl, _, hl, hm, hz, hx, hc, hwf⟩
 ·exact ⟨none, 0, [], rfl, ⟨by simp, fun n hn => absurd hn (by simp), fun h => absurd h (by simp)⟩, Nat.le_refl _, fun _ => rfl⟩
 ·simp only [if_true] at hz
  rw [hx] at hw
  simp only [DataW.weights, Tryz.underlying22] at hw
  have hcap : cap * 8 ≤ reachBytes := by
   have := hw _ (List.mem_cons_self)
   rw [abytes3] at this
   simp only [lits, List.length_map, List.length_take, List.length_drop] at this
   have e : min len zs.length + (zs.length - len) = cap := by omega
   rwa [e] at this
  simp only [reachBytes] at hcap
  have hL : (zs.take len).length = len := by rw [List.length_take]; omega
  refine ⟨some a, cap, zs.take len, by rw [hL], ⟨by rw [hL]; omega, fun n hn => bounds_i64 (hwf n (List.mem_of_mem_take hn)), fun h0 => ?_⟩, by rw [hL]; exact hl, fun e => by cases e⟩
  rw [hL] at h0
  obtain ⟨b, off, rfl⟩ := at_spot (hc 0 (by omega))
  refine ⟨b, off, rfl, fun j hj => ?_⟩
  rw [hL] at hj
  have h9 := hc j (by omega)
  rw [Addr.add_mid] at h9
  rw [h9]
  congr 2
  rw [List.getD_eq_getElem?_getD, List.getD_eq_getElem?_getD, List.getElem?_take, if_pos hj]
theorem open_list {r : Reach} {v : Value} {d : DataW H} {q : List MemPlace} (hv : Value.okWide Tryz.prog w r base2 22 v) (h : DataW.Trod enc Tryz.prog w base (fun _ => true) held 22 v d q) (hw : ∀ n ∈ d.weights Tryz.prog 22, n ≤ reachBytes) :
  ∃ (ao : Option Addr) (cap : Nat) (l : List Int), v = .slice ao l.length cap ∧ IntsAt w ao l ∧ l.length ≤ cap ∧ (ao = none → cap = 0) := by
 obtain ⟨ao, len, cap, rfl⟩ := okWide_slice Tryz.underlying22 hv
 obtain ⟨fuel, hf⟩ := h
 obtain ⟨ao', cap', l, hc, h1, h2, h3⟩ := open_row hf hw
 have e : (Value.slice ao len cap) = .slice ao' l.length cap' := by
  have : ([Value.slice ao len cap] : List Value) = [.slice ao' l.length cap'] := hc
  injection this
 exact ⟨ao', cap', l, e, h1, h2, h3⟩
end
end Go.Proofs.YthgpleelpeacjaaGreatDoor
namespace Go.Proofs.YthgpleelpeacjaaGreatDoor
open Go.RowKit
structure RowsAt (w : World) (ao : Option Addr) (xs : List (List Int)) : Prop where
 len : xs.length ≤ 5864062014805
 lies : 0 < xs.length → ∃ b off, ao = some ⟨b, off, none⟩ ∧ ∀ i, i < xs.length → ∃ a c, w.cell? ⟨b, off + i, none⟩ = some (.slice a (xs.getD i []).length c) ∧ (xs.getD i []).length ≤ c ∧ (a = none → c = 0) ∧ IntsAt w a (xs.getD i [])
theorem RowsAt.below {w w' : World} {ao : Option Addr} {xs : List (List Int)} (h : RowsAt w ao xs) (hb : Below w.heap.size w w') : RowsAt w' ao xs := by
 refine ⟨h.len, fun h0 => ?_⟩
 obtain ⟨b, off, e, hc⟩ := h.lies h0
 refine ⟨b, off, e, fun i hi => ?_⟩
 obtain ⟨a, c, h1, h2, h3, h4⟩ := hc i hi
 exact ⟨a, c, by rw [World.cell?_of_block (w := w) (hb.block _ (lt_cell h1))]; exact h1, h2, h3, h4.below hb⟩
end Go.Proofs.YthgpleelpeacjaaGreatDoor
namespace Go.Proofs.YthgpleelpeacjaaGreatDoor
open Go.ChangeShapes Go.WideShapes Go.ChangeAt Go.RowKit Go.Deep
abbrev infV (a b c d : Int) (i : Inf) (e : Int) (s : ByteArray) : Value := .agg #[.int .i64 a, .int .i64 b, .int .i64 c, .int .i64 d, .int .i64 i.rate, .int .i64 i.ch, .int .i64 i.wd, .int .i64 e, .string s]
structure FmAt (w : World) (f : Fm) (so : Option Addr) (sk : Nat) : Prop where
 S : SubsAt w so f.S
 sk_ : f.S.length ≤ sk ∧ (so = none → sk = 0)
 num : I64 f.num
 size : I64 f.size
 sc : I64 f.sc
 rc : I64 f.rc
 wc : I64 f.wc
 mo : I64 f.mo
end Go.Proofs.YthgpleelpeacjaaGreatDoor
namespace Go.Proofs.YthgpleelpeacjaaGreatDoor
open Go.RowKit
abbrev infC (a b c d : Int) (i : Inf) (e : Int) (s : ByteArray) : Array Value := #[.int .i64 a, .int .i64 b, .int .i64 c, .int .i64 d, .int .i64 i.rate, .int .i64 i.ch, .int .i64 i.wd, .int .i64 e, .string s]
theorem inf_cells {w : World} {g : Nat} {a b c d : Int} {i : Inf} {e : Int} {s : ByteArray} (h : w.heap[g]? = some (.cells (infC a b c d i e s) 38 (0, 0))) :
  w.cell? ⟨g, 0, none⟩ = some (.int .i64 a) ∧ w.cell? ⟨g, 1, none⟩ = some (.int .i64 b) ∧ w.cell? ⟨g, 2, none⟩ = some (.int .i64 c) ∧ w.cell? ⟨g, 3, none⟩ = some (.int .i64 d) ∧ w.cell? ⟨g, 4, none⟩ = some (.int .i64 i.rate) ∧ w.cell? ⟨g, 5, none⟩ = some (.int .i64 i.ch) ∧ w.cell? ⟨g, 6, none⟩ = some (.int .i64 i.wd) ∧ w.cell? ⟨g, 7, none⟩ = some (.int .i64 e) ∧ w.cell? ⟨g, 8, none⟩ = some (.string s) := by
 refine ⟨?_, ?_, ?_, ?_, ?_, ?_, ?_, ?_, ?_⟩ <;> (rw [cell_of_row _ _ _ _ _ _ h]; rfl)
structure FX (w : World) (f : Fm) (so : Option Addr) (sk : Nat) (a b c d : Int) (i : Inf) (e : Int) (s : ByteArray) (wx : World) : Prop where
 fb : wx.heap[w.heap.size]? = some (.cells (fmC f so sk) 41 (0, 0))
 ib : wx.heap[w.heap.size + 1]? = some (.cells (infC a b c d i e s) 38 (0, 0))
 below : Below w.heap.size w wx
section
variable {w wx w' : World} {f : Fm} {so : Option Addr} {sk : Nat} {a b c d : Int} {i : Inf} {e : Int} {s : ByteArray}
theorem FX.new (w : World) (f : Fm) (so : Option Addr) (sk : Nat) (a b c d : Int) (i : Inf) (e : Int) (s : ByteArray) : FX w f so sk a b c d i e s ((w.alloc (.cells (fmC f so sk) 41)).alloc (.cells (infC a b c d i e s) 38)) := by
 refine ⟨heap_two _ _ _, ?_, ((Below.refl _ _).alloc (Nat.le_refl _) _).alloc (by simp) _⟩
 have hh := heap_alloc_new (w.alloc (.cells (fmC f so sk) 41)) (.cells (infC a b c d i e s) 38)
 rw [show (w.alloc (.cells (fmC f so sk) 41)).heap.size = w.heap.size + 1 from by simp] at hh
 exact hh
theorem FX.next (h : FX w f so sk a b c d i e s wx) (hb : Below wx.heap.size wx w') : FX w f so sk a b c d i e s w' :=
 ⟨by rw [hb.block _ (lt_of_block h.fb)]; exact h.fb, by rw [hb.block _ (lt_of_block h.ib)]; exact h.ib, h.below.trans (hb.mono h.below.size)⟩
theorem FX.drew (h : FX w f so sk a b c d i e s wx) : FX w f so sk a b c d i e s wx.drew := h.next ⟨rfl, rfl, rfl, Nat.le_refl _, fun _ _ => rfl⟩
end
theorem siz_eq (c : Int) (h : 0 ≤ c ∧ c < 16) : sizT.getD c.toNat 0 = sizN c := by
 obtain ⟨n, rfl⟩ : ∃ n : Nat, c = n := ⟨c.toNat, by omega⟩
 have hall : ∀ n : Nat, n < 16 → sizT.getD ((n : Int).toNat) 0 = sizN (n : Int) := by decide
 exact hall n (by omega)
theorem rat_eq (c : Int) (h : 0 ≤ c ∧ c < 12) : ratT.getD c.toNat 0 = ratN c := by
 obtain ⟨n, rfl⟩ : ∃ n : Nat, c = n := ⟨c.toNat, by omega⟩
 have hall : ∀ n : Nat, n < 12 → ratT.getD ((n : Int).toNat) 0 = ratN (n : Int) := by decide
 exact hall n (by omega)
theorem rat_15 : ratT.getD (15 : Int).toNat 0 = 0 := by decide
theorem wid_eq (c : Int) (h : 0 ≤ c ∧ c < 8) : widT.getD c.toNat 0 = widN c := by
 obtain ⟨n, rfl⟩ : ∃ n : Nat, c = n := ⟨c.toNat, by omega⟩
 have hall : ∀ n : Nat, n < 8 → widT.getD ((n : Int).toNat) 0 = widN (n : Int) := by decide
 exact hall n (by omega)
theorem wid_37 : widN 3 = 0 ∧ widN 7 = 0 ∧ sizN 0 = 0 ∧ sizN 6 = 0 ∧ sizN 7 = 0 := by decide
abbrev sayZ (c size : Int) : Prop := (1 ≤ c ∧ c ≤ 15) ∧ (sizN c = size ∨ (c = 6 ∧ size ≤ 256) ∨ c = 7)
abbrev sayR (c r : Int) : Prop := c = 0 ∨ ((1 ≤ c ∧ c ≤ 11) ∧ ratN c = r) ∨ (c = 12 ∧ r % 1000 = 0 ∧ r ≤ 255000) ∨ (c = 13 ∧ r ≤ 65535) ∨ (c = 14 ∧ r % 10 = 0 ∧ r ≤ 655350)
abbrev sayW (c v : Int) : Prop := c = 0 ∨ ((1 ≤ c ∧ c ≤ 6) ∧ ¬ c = 3 ∧ widN c = v)
theorem f_sayZ (c size : Int) (hs : 1 ≤ size ∧ size ≤ 4608) (bb : Bool) (hbb : bb = true ↔ sayZ c size) (w : World) (hL : Lay w) : Calls Tryz.prog 124 #[.int .i64 c, .int .i64 size] w fun e w' => e = .returned (.bool bb) ∧ w' = w := by
 have kz := f_szb c
 have w37 := wid_37
 by_cases g : 0 ≤ c ∧ c < 16
 ·have ki := f_isIn c 16 true (tt_iff g)
  have kS := f_sizS c (size - 1) g (by omega) w hL
  clear hL
  rcases szb_all c with ⟨g6, hz⟩ | ⟨g7, hz⟩ | ⟨g6, g7, hz⟩
  ·rw [hz] at kz
   by_cases h256 : size ≤ 256
   ·have kh := f_hold1 (size - 1) true (tt_iff (by omega))
    have hv : sizS c (size - 1) = size := by unfold sizS; rw [if_pos (.inl g6)]; omega
    rw [hv] at kS
    rw [bb_yes hbb ⟨by omega, .inr (.inl ⟨g6, h256⟩)⟩]
    clear hbb hv hz w37 g g6
    go_enter Tryz.func124, Tryz.ntmps124
    go_wp2_with fail
    refine (ki _).mono ?_
    rintro e wc0 ⟨rfl, hwc0⟩
    subst hwc0
    go_wp2_with fail
    refine (kz _).mono ?_
    rintro e wc1 ⟨rfl, hwc1⟩
    subst hwc1
    go_wp2_with fail
    refine (kh _).mono ?_
    rintro e wc2 ⟨rfl, hwc2⟩
    subst hwc2
    go_wp2_with fail
    refine kS.mono ?_
    rintro e wd ⟨rfl, hwd⟩
    subst hwd
    go_wp2_with fail
    go_ret
    exact ⟨by simp, rfl⟩
   ·have kh := f_hold1 (size - 1) false (ff_iff (by omega))
    rw [bb_no hbb (fun h => by rcases h.2 with h | h | h; (rw [g6, w37.2.2.2.1] at h; omega); omega; omega)]
    clear hbb hz w37 g kS g6
    go_enter Tryz.func124, Tryz.ntmps124
    go_wp2_with fail
    refine (ki _).mono ?_
    rintro e wc0 ⟨rfl, hwc0⟩
    subst hwc0
    go_wp2_with fail
    refine (kz _).mono ?_
    rintro e wc1 ⟨rfl, hwc1⟩
    subst hwc1
    go_wp2_with fail
    refine (kh _).mono ?_
    rintro e wc2 ⟨rfl, hwc2⟩
    subst hwc2
    go_wp2_with fail
    go_ret
    exact ⟨rfl, rfl⟩
  ·rw [hz] at kz
   have kh := f_hold2 (size - 1) true (tt_iff (by omega))
   have hv : sizS c (size - 1) = size := by unfold sizS; rw [if_pos (.inr g7)]; omega
   rw [hv] at kS
   rw [bb_yes hbb ⟨by omega, .inr (.inr g7)⟩]
   clear hbb hv hz w37 g g7
   go_enter Tryz.func124, Tryz.ntmps124
   go_wp2_with fail
   refine (ki _).mono ?_
   rintro e wc0 ⟨rfl, hwc0⟩
   subst hwc0
   go_wp2_with fail
   refine (kz _).mono ?_
   rintro e wc1 ⟨rfl, hwc1⟩
   subst hwc1
   go_wp2_with fail
   refine (kh _).mono ?_
   rintro e wc2 ⟨rfl, hwc2⟩
   subst hwc2
   go_wp2_with fail
   refine kS.mono ?_
   rintro e wd ⟨rfl, hwd⟩
   subst hwd
   go_wp2_with fail
   go_ret
   exact ⟨by simp, rfl⟩
  ·rw [hz] at kz
   have kh := f_hold0 (size - 1)
   have hv : sizS c (size - 1) = sizN c := by unfold sizS; rw [if_neg (by omega), siz_eq c g]
   rw [hv] at kS
   by_cases he : sizN c = size
   ·have hbe : (sizN c == size) = true := by rw [beq_iff_eq]; exact he
    rw [bb_yes hbb ⟨⟨by
     rcases Int.lt_or_le c 1 with h | h
     ·have : c = 0 := by omega
      rw [this, w37.2.2.1] at he; omega
     ·exact h, by omega⟩, .inl he⟩]
    clear hbb hv hz w37 he
    generalize sizN c = v at *
    go_enter Tryz.func124, Tryz.ntmps124
    go_wp2_with fail
    refine (ki _).mono ?_
    rintro e wc0 ⟨rfl, hwc0⟩
    subst hwc0
    go_wp2_with fail
    refine (kz _).mono ?_
    rintro e wc1 ⟨rfl, hwc1⟩
    subst hwc1
    go_wp2_with fail
    refine (kh _).mono ?_
    rintro e wc2 ⟨rfl, hwc2⟩
    subst hwc2
    go_wp2_with fail
    refine kS.mono ?_
    rintro e wd ⟨rfl, hwd⟩
    subst hwd
    go_wp2_with fail
    go_ret
    exact ⟨rfl, rfl⟩
   ·have hbe : (sizN c == size) = false := by rw [beq_eq_false_iff_ne]; exact he
    rw [bb_no hbb (fun h => by rcases h.2 with h | h | h; exact he h; omega; omega)]
    clear hbb hv hz w37 he
    generalize sizN c = v at *
    go_enter Tryz.func124, Tryz.ntmps124
    go_wp2_with fail
    refine (ki _).mono ?_
    rintro e wc0 ⟨rfl, hwc0⟩
    subst hwc0
    go_wp2_with fail
    refine (kz _).mono ?_
    rintro e wc1 ⟨rfl, hwc1⟩
    subst hwc1
    go_wp2_with fail
    refine (kh _).mono ?_
    rintro e wc2 ⟨rfl, hwc2⟩
    subst hwc2
    go_wp2_with fail
    refine kS.mono ?_
    rintro e wd ⟨rfl, hwd⟩
    subst hwd
    go_wp2_with fail
    go_ret
    exact ⟨rfl, rfl⟩
 ·have ki := f_isIn c 16 false (ff_iff g)
  rw [bb_no hbb (fun h => g (by omega))]
  clear hbb w37 hL kz g
  go_enter Tryz.func124, Tryz.ntmps124
  go_wp2_with fail
  refine (ki _).mono ?_
  rintro e wc0 ⟨rfl, hwc0⟩
  subst hwc0
  go_wp2_with fail
  go_ret
  exact ⟨rfl, rfl⟩
theorem f_sayR12 (c rate : Int) (hs : 1 ≤ rate ∧ rate ≤ 9223372036854775807) (bb : Bool) (hbb : bb = true ↔ sayR c rate) (w : World) (hL : Lay w) (gc : c = 12) (hzu : rtb c = 1 ∧ rtu c = 1000) : Calls Tryz.prog 125 #[.int .i64 c, .int .i64 rate] w fun e w' => e = .returned (.bool bb) ∧ w' = w := by
 have kz := f_rtb c
 have ku := f_rtu c
 have g : 0 ≤ c ∧ c < 16 := by omega
 have ki := f_isIn c 16 true (tt_iff g)
 obtain ⟨hz, hu⟩ := hzu
 rw [hz] at kz
 rw [hu] at ku
 have hm : rate / 1000 * rtu c ≤ 9223372036854775807 := by rw [hu]; omega
 have kS := f_ratS c (rate / 1000) rate g (by omega) hm w hL
 have hv : ratS c (rate / 1000) rate = rate / 1000 * 1000 := by unfold ratS; rw [if_neg (by omega), if_pos (by omega), hu]
 rw [hv] at kS
 clear hL hv hz hu hm
 by_cases hh : rate / 1000 < 256
 ·have kh := f_hold1 (rate / 1000) true (tt_iff hh)
  by_cases he : rate / 1000 * 1000 = rate
  ·have hbe : (rate / 1000 * 1000 == rate) = true := by rw [beq_iff_eq]; exact he
   rw [bb_yes hbb (by unfold sayR; omega)]
   clear hbb he hh g gc
   go_enter Tryz.func125, Tryz.ntmps125
   go_wp2_with fail
   refine (ku _).mono ?_
   rintro e wc0 ⟨rfl, hwc0⟩
   subst hwc0
   go_wp2_with fail
   refine (ki _).mono ?_
   rintro e wc1 ⟨rfl, hwc1⟩
   subst hwc1
   go_wp2_with fail
   refine (kz _).mono ?_
   rintro e wc2 ⟨rfl, hwc2⟩
   subst hwc2
   go_wp2_with fail
   refine (kh _).mono ?_
   rintro e wc3 ⟨rfl, hwc3⟩
   subst hwc3
   go_wp2_with fail
   refine kS.mono ?_
   rintro e wd ⟨rfl, hwd⟩
   subst hwd
   go_wp2_with fail
   go_ret
   exact ⟨rfl, rfl⟩
  ·have hbe : (rate / 1000 * 1000 == rate) = false := by rw [beq_eq_false_iff_ne]; exact he
   rw [bb_no hbb (by unfold sayR; omega)]
   clear hbb he hh g gc
   go_enter Tryz.func125, Tryz.ntmps125
   go_wp2_with fail
   refine (ku _).mono ?_
   rintro e wc0 ⟨rfl, hwc0⟩
   subst hwc0
   go_wp2_with fail
   refine (ki _).mono ?_
   rintro e wc1 ⟨rfl, hwc1⟩
   subst hwc1
   go_wp2_with fail
   refine (kz _).mono ?_
   rintro e wc2 ⟨rfl, hwc2⟩
   subst hwc2
   go_wp2_with fail
   refine (kh _).mono ?_
   rintro e wc3 ⟨rfl, hwc3⟩
   subst hwc3
   go_wp2_with fail
   refine kS.mono ?_
   rintro e wd ⟨rfl, hwd⟩
   subst hwd
   go_wp2_with fail
   go_ret
   exact ⟨rfl, rfl⟩
 ·have kh := f_hold1 (rate / 1000) false (ff_iff hh)
  rw [bb_no hbb (by unfold sayR; omega)]
  clear hbb hh g kS gc
  go_enter Tryz.func125, Tryz.ntmps125
  go_wp2_with fail
  refine (ku _).mono ?_
  rintro e wc0 ⟨rfl, hwc0⟩
  subst hwc0
  go_wp2_with fail
  refine (ki _).mono ?_
  rintro e wc1 ⟨rfl, hwc1⟩
  subst hwc1
  go_wp2_with fail
  refine (kz _).mono ?_
  rintro e wc2 ⟨rfl, hwc2⟩
  subst hwc2
  go_wp2_with fail
  refine (kh _).mono ?_
  rintro e wc3 ⟨rfl, hwc3⟩
  subst hwc3
  go_wp2_with fail
  go_ret
  exact ⟨rfl, rfl⟩
theorem f_sayR14 (c rate : Int) (hs : 1 ≤ rate ∧ rate ≤ 9223372036854775807) (bb : Bool) (hbb : bb = true ↔ sayR c rate) (w : World) (hL : Lay w) (gc : c = 14) (hzu : rtb c = 2 ∧ rtu c = 10) : Calls Tryz.prog 125 #[.int .i64 c, .int .i64 rate] w fun e w' => e = .returned (.bool bb) ∧ w' = w := by
 have kz := f_rtb c
 have ku := f_rtu c
 have g : 0 ≤ c ∧ c < 16 := by omega
 have ki := f_isIn c 16 true (tt_iff g)
 obtain ⟨hz, hu⟩ := hzu
 rw [hz] at kz
 rw [hu] at ku
 have hm : rate / 10 * rtu c ≤ 9223372036854775807 := by rw [hu]; omega
 have kS := f_ratS c (rate / 10) rate g (by omega) hm w hL
 have hv : ratS c (rate / 10) rate = rate / 10 * 10 := by unfold ratS; rw [if_neg (by omega), if_pos (by omega), hu]
 rw [hv] at kS
 clear hL hv hz hu hm
 by_cases hh : rate / 10 < 65536
 ·have kh := f_hold2 (rate / 10) true (tt_iff hh)
  by_cases he : rate / 10 * 10 = rate
  ·have hbe : (rate / 10 * 10 == rate) = true := by rw [beq_iff_eq]; exact he
   rw [bb_yes hbb (by unfold sayR; omega)]
   clear hbb he hh g gc
   go_enter Tryz.func125, Tryz.ntmps125
   go_wp2_with fail
   refine (ku _).mono ?_
   rintro e wc0 ⟨rfl, hwc0⟩
   subst hwc0
   go_wp2_with fail
   refine (ki _).mono ?_
   rintro e wc1 ⟨rfl, hwc1⟩
   subst hwc1
   go_wp2_with fail
   refine (kz _).mono ?_
   rintro e wc2 ⟨rfl, hwc2⟩
   subst hwc2
   go_wp2_with fail
   refine (kh _).mono ?_
   rintro e wc3 ⟨rfl, hwc3⟩
   subst hwc3
   go_wp2_with fail
   refine kS.mono ?_
   rintro e wd ⟨rfl, hwd⟩
   subst hwd
   go_wp2_with fail
   go_ret
   exact ⟨rfl, rfl⟩
  ·have hbe : (rate / 10 * 10 == rate) = false := by rw [beq_eq_false_iff_ne]; exact he
   rw [bb_no hbb (by unfold sayR; omega)]
   clear hbb he hh g gc
   go_enter Tryz.func125, Tryz.ntmps125
   go_wp2_with fail
   refine (ku _).mono ?_
   rintro e wc0 ⟨rfl, hwc0⟩
   subst hwc0
   go_wp2_with fail
   refine (ki _).mono ?_
   rintro e wc1 ⟨rfl, hwc1⟩
   subst hwc1
   go_wp2_with fail
   refine (kz _).mono ?_
   rintro e wc2 ⟨rfl, hwc2⟩
   subst hwc2
   go_wp2_with fail
   refine (kh _).mono ?_
   rintro e wc3 ⟨rfl, hwc3⟩
   subst hwc3
   go_wp2_with fail
   refine kS.mono ?_
   rintro e wd ⟨rfl, hwd⟩
   subst hwd
   go_wp2_with fail
   go_ret
   exact ⟨rfl, rfl⟩
 ·have kh := f_hold2 (rate / 10) false (ff_iff hh)
  rw [bb_no hbb (by unfold sayR; omega)]
  clear hbb hh g kS gc
  go_enter Tryz.func125, Tryz.ntmps125
  go_wp2_with fail
  refine (ku _).mono ?_
  rintro e wc0 ⟨rfl, hwc0⟩
  subst hwc0
  go_wp2_with fail
  refine (ki _).mono ?_
  rintro e wc1 ⟨rfl, hwc1⟩
  subst hwc1
  go_wp2_with fail
  refine (kz _).mono ?_
  rintro e wc2 ⟨rfl, hwc2⟩
  subst hwc2
  go_wp2_with fail
  refine (kh _).mono ?_
  rintro e wc3 ⟨rfl, hwc3⟩
  subst hwc3
  go_wp2_with fail
  go_ret
  exact ⟨rfl, rfl⟩
theorem f_sayR13 (c rate : Int) (hs : 1 ≤ rate ∧ rate ≤ 9223372036854775807) (bb : Bool) (hbb : bb = true ↔ sayR c rate) (w : World) (hL : Lay w) (gc : c = 13) (hzu : rtb c = 2 ∧ rtu c = 1) : Calls Tryz.prog 125 #[.int .i64 c, .int .i64 rate] w fun e w' => e = .returned (.bool bb) ∧ w' = w := by
 have kz := f_rtb c
 have ku := f_rtu c
 have g : 0 ≤ c ∧ c < 16 := by omega
 have ki := f_isIn c 16 true (tt_iff g)
 obtain ⟨hz, hu⟩ := hzu
 rw [hz] at kz
 rw [hu] at ku
 have kS := f_ratS c rate rate g (by omega) (by rw [hu]; omega) w hL
 have hv : ratS c rate rate = rate := by unfold ratS; rw [if_neg (by omega), if_pos (by omega), hu, Int.mul_one]
 rw [hv] at kS
 have hbe : (rate == rate) = true := by rw [beq_iff_eq]
 clear hL hv hz hu
 by_cases hh : rate < 65536
 ·have kh := f_hold2 rate true (tt_iff hh)
  rw [bb_yes hbb (by unfold sayR; omega)]
  clear hbb hh g gc
  go_enter Tryz.func125, Tryz.ntmps125
  go_wp2_with fail
  refine (ku _).mono ?_
  rintro e wc0 ⟨rfl, hwc0⟩
  subst hwc0
  go_wp2_with fail
  refine (ki _).mono ?_
  rintro e wc1 ⟨rfl, hwc1⟩
  subst hwc1
  go_wp2_with fail
  refine (kz _).mono ?_
  rintro e wc2 ⟨rfl, hwc2⟩
  subst hwc2
  go_wp2_with fail
  refine (kh _).mono ?_
  rintro e wc3 ⟨rfl, hwc3⟩
  subst hwc3
  go_wp2_with fail
  refine kS.mono ?_
  rintro e wd ⟨rfl, hwd⟩
  subst hwd
  go_wp2_with fail
  go_ret
  exact ⟨rfl, rfl⟩
 ·have kh := f_hold2 rate false (ff_iff hh)
  rw [bb_no hbb (by unfold sayR; omega)]
  clear hbb hh g kS gc
  go_enter Tryz.func125, Tryz.ntmps125
  go_wp2_with fail
  refine (ku _).mono ?_
  rintro e wc0 ⟨rfl, hwc0⟩
  subst hwc0
  go_wp2_with fail
  refine (ki _).mono ?_
  rintro e wc1 ⟨rfl, hwc1⟩
  subst hwc1
  go_wp2_with fail
  refine (kz _).mono ?_
  rintro e wc2 ⟨rfl, hwc2⟩
  subst hwc2
  go_wp2_with fail
  refine (kh _).mono ?_
  rintro e wc3 ⟨rfl, hwc3⟩
  subst hwc3
  go_wp2_with fail
  go_ret
  exact ⟨rfl, rfl⟩
theorem f_sayRn (c rate : Int) (hs : 1 ≤ rate ∧ rate ≤ 9223372036854775807) (bb : Bool) (hbb : bb = true ↔ sayR c rate) (w : World) (hL : Lay w) (g1 : ¬ c = 12) (g2 : ¬ c = 13) (g3 : ¬ c = 14) (g : 0 ≤ c ∧ c < 16) (hzu : rtb c = 0 ∧ rtu c = 1) : Calls Tryz.prog 125 #[.int .i64 c, .int .i64 rate] w fun e w' => e = .returned (.bool bb) ∧ w' = w := by
 have kz := f_rtb c
 have ku := f_rtu c
 have ki := f_isIn c 16 true (tt_iff g)
 obtain ⟨hz, hu⟩ := hzu
 rw [hz] at kz
 rw [hu] at ku
 have kh := f_hold0 rate
 have kS := f_ratS c rate rate g (by omega) (by rw [hu]; omega) w hL
 by_cases g0 : c = 0
 ·have hv : ratS c rate rate = rate := by unfold ratS; rw [if_pos g0]
  rw [hv] at kS
  have hbe : (rate == rate) = true := by rw [beq_iff_eq]
  rw [bb_yes hbb (.inl g0)]
  clear hbb hL hv hz hu g0 g g1 g2 g3
  go_enter Tryz.func125, Tryz.ntmps125
  go_wp2_with fail
  refine (ku _).mono ?_
  rintro e wc0 ⟨rfl, hwc0⟩
  subst hwc0
  go_wp2_with fail
  refine (ki _).mono ?_
  rintro e wc1 ⟨rfl, hwc1⟩
  subst hwc1
  go_wp2_with fail
  refine (kz _).mono ?_
  rintro e wc2 ⟨rfl, hwc2⟩
  subst hwc2
  go_wp2_with fail
  refine (kh _).mono ?_
  rintro e wc3 ⟨rfl, hwc3⟩
  subst hwc3
  go_wp2_with fail
  refine kS.mono ?_
  rintro e wd ⟨rfl, hwd⟩
  subst hwd
  go_wp2_with fail
  go_ret
  exact ⟨rfl, rfl⟩
 ·have hv : ratS c rate rate = ratT.getD c.toNat 0 := by unfold ratS; rw [if_neg g0, if_neg (by omega)]
  have hr15 : c = 15 → ratT.getD c.toNat 0 = 0 := fun h => by rw [h]; exact rat_15
  have hrn : ¬ c = 15 → ratT.getD c.toNat 0 = ratN c := fun h => rat_eq c (by omega)
  rw [hv] at kS
  by_cases he : ratT.getD c.toNat 0 = rate
  ·have hbe : (ratT.getD c.toNat 0 == rate) = true := by rw [beq_iff_eq]; exact he
   have hn15 : ¬ c = 15 := fun h => by have := hr15 h; omega
   rw [bb_yes hbb (.inr (.inl ⟨by omega, by rw [← hrn hn15]; exact he⟩))]
   clear hbb hL hv hz hu g0 g he hr15 hrn hn15 g1 g2 g3
   generalize ratT.getD c.toNat 0 = v at *
   go_enter Tryz.func125, Tryz.ntmps125
   go_wp2_with fail
   refine (ku _).mono ?_
   rintro e wc0 ⟨rfl, hwc0⟩
   subst hwc0
   go_wp2_with fail
   refine (ki _).mono ?_
   rintro e wc1 ⟨rfl, hwc1⟩
   subst hwc1
   go_wp2_with fail
   refine (kz _).mono ?_
   rintro e wc2 ⟨rfl, hwc2⟩
   subst hwc2
   go_wp2_with fail
   refine (kh _).mono ?_
   rintro e wc3 ⟨rfl, hwc3⟩
   subst hwc3
   go_wp2_with fail
   refine kS.mono ?_
   rintro e wd ⟨rfl, hwd⟩
   subst hwd
   go_wp2_with fail
   go_ret
   exact ⟨rfl, rfl⟩
  ·have hbe : (ratT.getD c.toNat 0 == rate) = false := by rw [beq_eq_false_iff_ne]; exact he
   rw [bb_no hbb (fun h => by
    rcases h with h | h | h | h | h
    ·exact g0 h
    ·exact he (by rw [hrn (by omega)]; exact h.2)
    ·omega
    ·omega
    ·omega)]
   clear hbb hL hv hz hu g0 g he hr15 hrn g1 g2 g3
   generalize ratT.getD c.toNat 0 = v at *
   go_enter Tryz.func125, Tryz.ntmps125
   go_wp2_with fail
   refine (ku _).mono ?_
   rintro e wc0 ⟨rfl, hwc0⟩
   subst hwc0
   go_wp2_with fail
   refine (ki _).mono ?_
   rintro e wc1 ⟨rfl, hwc1⟩
   subst hwc1
   go_wp2_with fail
   refine (kz _).mono ?_
   rintro e wc2 ⟨rfl, hwc2⟩
   subst hwc2
   go_wp2_with fail
   refine (kh _).mono ?_
   rintro e wc3 ⟨rfl, hwc3⟩
   subst hwc3
   go_wp2_with fail
   refine kS.mono ?_
   rintro e wd ⟨rfl, hwd⟩
   subst hwd
   go_wp2_with fail
   go_ret
   exact ⟨rfl, rfl⟩
theorem f_sayR (c rate : Int) (hs : 1 ≤ rate ∧ rate ≤ 9223372036854775807) (bb : Bool) (hbb : bb = true ↔ sayR c rate) (w : World) (hL : Lay w) : Calls Tryz.prog 125 #[.int .i64 c, .int .i64 rate] w fun e w' => e = .returned (.bool bb) ∧ w' = w := by
 by_cases g : 0 ≤ c ∧ c < 16
 ·rcases rtb_all c with ⟨gc, hz, hu⟩ | ⟨gc, hz, hu⟩ | ⟨gc, hz, hu⟩ | ⟨g1, g2, g3, hz, hu⟩
  ·exact f_sayR12 c rate hs bb hbb w hL gc ⟨hz, hu⟩
  ·exact f_sayR13 c rate hs bb hbb w hL gc ⟨hz, hu⟩
  ·exact f_sayR14 c rate hs bb hbb w hL gc ⟨hz, hu⟩
  ·exact f_sayRn c rate hs bb hbb w hL g1 g2 g3 g ⟨hz, hu⟩
 ·have kz := f_rtb c
  have ku := f_rtu c
  have ki := f_isIn c 16 false (ff_iff g)
  have hu : rtu c = 1 := by unfold rtu; rw [if_neg (by omega), if_neg (by omega)]
  rw [hu] at ku
  rw [bb_no hbb (by unfold sayR; omega)]
  clear hbb hL kz g hu
  go_enter Tryz.func125, Tryz.ntmps125
  go_wp2_with fail
  refine (ku _).mono ?_
  rintro e wc0 ⟨rfl, hwc0⟩
  subst hwc0
  go_wp2_with fail
  refine (ki _).mono ?_
  rintro e wc1 ⟨rfl, hwc1⟩
  subst hwc1
  go_wp2_with fail
  go_ret
  exact ⟨rfl, rfl⟩
theorem f_sayW (c v : Int) (hs : 4 ≤ v ∧ v ≤ 24) (bb : Bool) (hbb : bb = true ↔ sayW c v) (w : World) (hL : Lay w) : Calls Tryz.prog 126 #[.int .i64 c, .int .i64 v] w fun e w' => e = .returned (.bool bb) ∧ w' = w := by
 have w37 := wid_37
 by_cases g : 0 ≤ c ∧ c < 8
 ·have ki := f_isIn c 8 true (tt_iff g)
  have kS := f_widS c v g w hL
  have hwe := wid_eq c g
  by_cases g0 : c = 0
  ·have hv : widS c v = v := by unfold widS; rw [if_pos g0]
   rw [hv] at kS
   have hbe : (v == v) = true := by rw [beq_iff_eq]
   rw [bb_yes hbb (.inl g0)]
   clear hbb hL hv g0 g hwe w37
   go_enter Tryz.func126, Tryz.ntmps126
   go_wp2_with fail
   refine (ki _).mono ?_
   rintro e wc0 ⟨rfl, hwc0⟩
   subst hwc0
   go_wp2_with fail
   refine kS.mono ?_
   rintro e wd ⟨rfl, hwd⟩
   subst hwd
   go_wp2_with fail
   go_ret
   exact ⟨rfl, rfl⟩
  ·have hv : widS c v = widN c := by unfold widS; rw [if_neg g0, hwe]
   rw [hv] at kS
   by_cases he : widN c = v
   ·have hbe : (widN c == v) = true := by rw [beq_iff_eq]; exact he
    rw [bb_yes hbb (.inr ⟨⟨by omega, by
     rcases Int.lt_or_le 6 c with h | h
     ·have : c = 7 := by omega
      rw [this, w37.2.1] at he; omega
     ·exact h⟩, fun h => by rw [h, w37.1] at he; omega, he⟩)]
    clear hbb hL hv g0 g hwe w37 he
    generalize widN c = u at *
    go_enter Tryz.func126, Tryz.ntmps126
    go_wp2_with fail
    refine (ki _).mono ?_
    rintro e wc0 ⟨rfl, hwc0⟩
    subst hwc0
    go_wp2_with fail
    refine kS.mono ?_
    rintro e wd ⟨rfl, hwd⟩
    subst hwd
    go_wp2_with fail
    go_ret
    exact ⟨rfl, rfl⟩
   ·have hbe : (widN c == v) = false := by rw [beq_eq_false_iff_ne]; exact he
    rw [bb_no hbb (fun h => by rcases h with h | h; exact g0 h; exact he h.2.2)]
    clear hbb hL hv g0 g hwe w37 he
    generalize widN c = u at *
    go_enter Tryz.func126, Tryz.ntmps126
    go_wp2_with fail
    refine (ki _).mono ?_
    rintro e wc0 ⟨rfl, hwc0⟩
    subst hwc0
    go_wp2_with fail
    refine kS.mono ?_
    rintro e wd ⟨rfl, hwd⟩
    subst hwd
    go_wp2_with fail
    go_ret
    exact ⟨rfl, rfl⟩
 ·have ki := f_isIn c 8 false (ff_iff g)
  rw [bb_no hbb (by unfold sayW; omega)]
  clear hbb hL g w37
  go_enter Tryz.func126, Tryz.ntmps126
  go_wp2_with fail
  refine (ki _).mono ?_
  rintro e wc0 ⟨rfl, hwc0⟩
  subst hwc0
  go_wp2_with fail
  go_ret
  exact ⟨rfl, rfl⟩
end Go.Proofs.YthgpleelpeacjaaGreatDoor
