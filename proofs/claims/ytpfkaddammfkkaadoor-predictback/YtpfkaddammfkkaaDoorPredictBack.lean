/-
  PredictBack: what each of the predictors, and of Shift with the bits that are wasted, leaves over is undone by the other, for any numbers. No condition.
-/
import Derived.Test.YtpfkaddammfkkaaDoorQ9awake
import Derived.Test.YtpfkaddammfkkaaDoorQ9shift
import Derived.Test.YtpfkaddammfkkaaDoorQ9laid
import Derived.Test.YtpfkaddammfkkaaDoorP9args
import Derived.Test.YtpfkaddammfkkaaDoorR9unst
import Derived.Test.YtpfkaddammfkkaaDoorR9ster
import Derived.Deep.CutRange
import Derived.Test.YtpfkaddammfkkaaDoorCards
import Derived.Test.YtpfkaddammfkkaaDoorTie
import Derived.WalkKit
import Derived.ProofKit
import Derived.OpenShut
import Derived.ShutString
import Derived.ChangeOld
import Derived.Below
import Derived.SizedLaws
import Derived.Carry
namespace Go.Proofs.YtpfkaddammfkkaaDoor.predictBack
open Go.ChangeShapes Go.WideShapes Go.ChangeAt Go.RowKit
open Go.ChangeMaps (open_string shut_string)
set_option linter.unusedSimpArgs false
set_option linter.unusedVariables false

theorem own : ownKnob Tryd.prog.godebug = none := by kernel_rfl
theorem laidOut : laidOutB Tryd.prog = true := by kernel_rfl

theorem ret2_no {w w' : World} {e : Ending} (h : Ret2 none w e w') : ∃ xa xc, e = .returned (.tuple #[.slice xa 0 xc, .int .i64 1]) ∧ Below w.heap.size w w' := by
  obtain ⟨xa, xc, h1, _, h4⟩ := h; exact ⟨xa, xc, h1, h4⟩
theorem ret2_yes {w w' : World} {e : Ending} {X : List Int} (h : Ret2 (some X) w e w') : ∃ xa xc, e = .returned (.tuple #[.slice xa X.length xc, .int .i64 0]) ∧ IntsAt w' xa X ∧ Below w.heap.size w w' := h
theorem fix_back {o : Int} {l A : List Int} (hr : Rng l) (h : fixR o l = some A) : ∃ o' : Nat, o = (o' : Int) ∧ o' ≤ l.length ∧ o' ≤ 4 ∧ A.length ≤ l.length ∧ unfR (o' : Int) (l.take o') A = some l := by
  unfold fixR at h
  split at h
  · rename_i hc
    obtain ⟨o', rfl⟩ : ∃ o' : Nat, o = (o' : Int) := ⟨o.toNat, by omega⟩
    rw [Int.toNat_natCast] at h
    have ho4 : o' ≤ 4 := by omega
    have hol : o' ≤ l.length := by omega
    have hwl := wF_len o' ho4
    simp only [Option.some.injEq] at h
    have hb := back9 (wF o') 0 l (by omega) hr
    rw [hwl] at hb
    rw [h] at hb
    have hAl : A.length = l.length - o' := by rw [← h, leftN_len]
    refine ⟨o', rfl, hol, ho4, by omega, ?_⟩
    unfold unfR
    rw [if_pos ⟨by omega, by omega, by rw [List.length_take]; omega⟩, Int.toNat_natCast, hAl, hb]
  · cases h
theorem lpc_back {C : List Int} {sh : Int} {l A : List Int} (hr : Rng l) (h : lpcR C sh l = some A) : C.length ≤ l.length ∧ A.length ≤ l.length ∧ unlR C sh (l.take C.length) A = some l := by
  unfold lpcR at h
  split at h
  · rename_i hc
    simp only [Option.some.injEq] at h
    have hb := back9 C sh.toNat l hc.2 hr
    rw [h] at hb
    have hAl : A.length = l.length - C.length := by rw [← h, leftN_len]
    refine ⟨hc.2, by omega, ?_⟩
    unfold unlR
    rw [if_pos ⟨hc.1, by rw [List.length_take]; omega⟩, hAl, hb]
  · cases h
theorem shf_was (l : List Int) : shfR l (wasN l : Int) = some (shrL l (wasN l)) := by
  have := wasN_le l
  unfold shfR
  rw [if_pos ⟨⟨by omega, by omega⟩, by rw [Int.toNat_natCast]; exact wasN_dvB l⟩, Int.toNat_natCast]
theorem uns_was (l : List Int) (hr : Rng l) : unsR (shrL l (wasN l)) (wasN l : Int) = some l := by
  have := wasN_le l
  unfold unsR
  rw [if_pos ⟨by omega, by omega⟩, Int.toNat_natCast, shl_shr l _ hr (wasN_dvB l)]
theorem slice_pre (a : Option Addr) (n c t : Nat) (h2 : t ≤ n) (h3 : n ≤ c) (w : World) : (Instr.slice 22 (.slice a n c) none (some (.int .i64 (t : Int))) none).run Tryd.prog w = .ok (.slice a t c) w := by
  have undI : Tryd.prog.underlying 22 = some (.slice (Tryd.prog.elem 22)) := by kernel_rfl
  have elemI : Tryd.prog.elem 22 = 3 := by kernel_rfl
  have size3 : (sizeOf 3).run Tryd.prog w = .ok 1 w := by kernel_rfl
  rw [run_slice_h w 22 a n c undI .i64 (t : Int) (by omega) (by omega), elemI, size3]
  cases a with
  | none => simp [Result.andThen, sliced]
  | some ad =>
    simp only [Result.andThen_ok, sliced, Int.toNat_natCast, Option.map_some, Nat.mul_one, Nat.sub_zero]
    split
    · rfl
    · cases ad with | mk bb oo ff => cases ff <;> simp [Addr.add]
theorem ints_pre {w : World} {ao : Option Addr} {l : List Int} (h : IntsAt w ao l) (t : Nat) (ht : t ≤ l.length) : IntsAt w ao (l.take t) := by
  have := h.part 0 t (by omega) ao (fun b off e _ => by rw [e, Nat.add_zero])
  rw [List.drop_zero] at this
  exact this

set_option maxRecDepth 20000 in
set_option maxHeartbeats 3200000 in
theorem walk (na nb : Int) (na1 : -9223372036854775808 ≤ na) (na2 : na ≤ 9223372036854775807) (nb1 : -9223372036854775808 ≤ nb) (nb2 : nb ≤ 9223372036854775807) (coefs : List Int) (coefso : Option Addr) (coefsc : Nat) (hcoefsc : coefs.length ≤ coefsc) (hcoefs0 : coefso = none → coefsc = 0) (hcoefs9 : coefs.length ≤ 17592186043904) (l : List Int) (lo : Option Addr) (lc : Nat) (hlc : l.length ≤ lc) (hl0 : lo = none → lc = 0) (hl9 : l.length ≤ 17592186043904) (w : World) (rcoefs : IntsAt w coefso coefs) (rl : IntsAt w lo l) (hT : Tz w) :
    Calls Tryd.prog 7 #[.agg #[.int .i64 na, .int .i64 nb], .slice coefso coefs.length coefsc, .slice lo l.length lc] w fun e w' => e = .returned (.bool true) ∧ Below w.heap.size w w' := by

  have KAw : Hid (∀ wx, Below w.heap.size w wx → Calls Tryd.prog 14 #[] wx fun e w' => e = .returned (.bool true) ∧ Below wx.heap.size wx w') := fun wx hb => awake_spec wx (hT.below hb)
  have HT0 : Hid (Tz w) := hT
  clear hT
  have HB0 : Hid (Below w.heap.size w w) := Below.refl _ _
  have Icoefs : Hid (IntsAt w coefso coefs) := rcoefs
  clear rcoefs
  have Il : Hid (IntsAt w lo l) := rl
  clear rl
  have hrl : Rng l := Il.out.num
  have hln := Il.out.len
  have KW : Hid (∀ wx, Below w.heap.size w wx → IntsAt wx lo l → Calls Tryd.prog 23 #[.slice lo l.length lc] wx fun e w' => e = .returned (.int .i64 (wasN l : Int)) ∧ Below wx.heap.size wx w') := fun wx hb g => qwasted_spec l lo lc wx (HT0.out.below hb) g
  obtain ⟨S, hS⟩ : ∃ S, S = shrL l (wasN l) := ⟨_, rfl⟩
  have KS : Hid (∀ wx, IntsAt wx lo l → Calls Tryd.prog 19 #[.slice lo l.length lc, .int .i64 (wasN l : Int)] wx (Ret2 (some S) wx)) := fun wx g => by rw [hS, ← shf_was l]; exact qshift_spec l (wasN l : Int) lo lc wx g
  have KT : Hid (∀ wx xa xc, IntsAt wx xa S → Calls Tryd.prog 21 #[.slice xa S.length xc, .int .i64 (wasN l : Int)] wx (Ret2 (some l) wx)) := fun wx xa xc g => by
    have hk := qunshift_spec S (wasN l : Int) xa xc wx g
    rw [hS, uns_was l hrl] at hk
    rw [hS]; exact hk
  clear hS
  generalize wasN l = wn at *
  cases hA : fixR na l with
  | none =>
    cases hB : lpcR coefs nb l with
    | none =>
      have KF : Hid (∀ wx, IntsAt wx lo l → Calls Tryd.prog 9 #[.int .i64 na, .slice lo l.length lc] wx (Ret2 (none) wx)) := fun wx g => by rw [← hA]; exact qfixed_spec na l lo lc hlc wx g
      have KL : Hid (∀ wx, IntsAt wx coefso coefs → IntsAt wx lo l → Calls Tryd.prog 15 #[.slice coefso coefs.length coefsc, .int .i64 nb, .slice lo l.length lc] wx (Ret2 (none) wx)) := fun wx g h => by rw [← hB]; exact qlpc_spec coefs l nb coefso lo coefsc lc hlc wx g h
      clear hA hB hrl
      have HTW : Hid ((w.alloc (.cells #[.int .i64 na, .int .i64 nb] 47)).heap[w.heap.size]? = some (.cells #[.int .i64 na, .int .i64 nb] 47 (0, 0))) := heap_alloc_new _ _
      have HBL : Hid (Below w.heap.size w (w.alloc (.cells #[.int .i64 na, .int .i64 nb] 47))) := (Below.refl _ _).alloc (Nat.le_refl _) _
      go_enter Tryd.func7, Tryd.ntmps7
      go_upto_region 1 with fail
      generalize hwa : w.alloc _ = wa at *
      have t0 : wa.cell? ⟨w.heap.size, 0, none⟩ = some (.int .i64 na) := by rw [cell_row HTW.out]; rfl
      have t1 : wa.cell? ⟨w.heap.size, 1, none⟩ = some (.int .i64 nb) := by rw [cell_row HTW.out]; rfl
      clear hwa
      go_quiet (fail)
      have hb : Below w.heap.size w (wa.drewN nq) := Below.drewN HBL.out nq
      generalize wa.drewN nq = wb at *
      clear t0 t1 HTW HBL
      have HBn : Hid (Below w.heap.size w wb) := HB0.out.trans (hb.mono HB0.out.size)
      clear HB0
      have HB0 : Hid (Below w.heap.size w wb) := HBn.out
      clear HBn
      have Icoefsn : Hid (IntsAt wb coefso coefs) := Icoefs.out.below hb
      clear Icoefs
      have Icoefs : Hid (IntsAt wb coefso coefs) := Icoefsn.out
      clear Icoefsn
      have Iln : Hid (IntsAt wb lo l) := Il.out.below hb
      clear Il
      have Il : Hid (IntsAt wb lo l) := Iln.out
      clear Iln
      clear hb
      go_wp2_with fail
      refine (KF.out wb Il.out).mono ?_
      intro e v1 hret
      obtain ⟨pa, pc, rfl, hb⟩ := ret2_no hret
      clear hret
      have HBn : Hid (Below w.heap.size w v1) := HB0.out.trans (hb.mono HB0.out.size)
      clear HB0
      have HB0 : Hid (Below w.heap.size w v1) := HBn.out
      clear HBn
      have Icoefsn : Hid (IntsAt v1 coefso coefs) := Icoefs.out.below hb
      clear Icoefs
      have Icoefs : Hid (IntsAt v1 coefso coefs) := Icoefsn.out
      clear Icoefsn
      have Iln : Hid (IntsAt v1 lo l) := Il.out.below hb
      clear Il
      have Il : Hid (IntsAt v1 lo l) := Iln.out
      clear Iln
      clear hb
      go_wp2_with fail
      refine (KL.out v1 Icoefs.out Il.out).mono ?_
      intro e v2 hret
      obtain ⟨ra, rc, rfl, hb⟩ := ret2_no hret
      clear hret
      have HBn : Hid (Below w.heap.size w v2) := HB0.out.trans (hb.mono HB0.out.size)
      clear HB0
      have HB0 : Hid (Below w.heap.size w v2) := HBn.out
      clear HBn
      have Icoefsn : Hid (IntsAt v2 coefso coefs) := Icoefs.out.below hb
      clear Icoefs
      have Icoefs : Hid (IntsAt v2 coefso coefs) := Icoefsn.out
      clear Icoefsn
      have Iln : Hid (IntsAt v2 lo l) := Il.out.below hb
      clear Il
      have Il : Hid (IntsAt v2 lo l) := Iln.out
      clear Iln
      clear hb
      go_wp2_with fail
      refine (KW.out v2 HB0.out Il.out).mono ?_
      rintro e v3 ⟨rfl, hb⟩
      have HBn : Hid (Below w.heap.size w v3) := HB0.out.trans (hb.mono HB0.out.size)
      clear HB0
      have HB0 : Hid (Below w.heap.size w v3) := HBn.out
      clear HBn
      have Icoefsn : Hid (IntsAt v3 coefso coefs) := Icoefs.out.below hb
      clear Icoefs
      have Icoefs : Hid (IntsAt v3 coefso coefs) := Icoefsn.out
      clear Icoefsn
      have Iln : Hid (IntsAt v3 lo l) := Il.out.below hb
      clear Il
      have Il : Hid (IntsAt v3 lo l) := Iln.out
      clear Iln
      clear hb
      go_wp2_with fail
      refine (KS.out v3 Il.out).mono ?_
      intro e v4 hret
      obtain ⟨xa, xc, rfl, h1, hb⟩ := ret2_yes hret
      clear hret
      have HBn : Hid (Below w.heap.size w v4) := HB0.out.trans (hb.mono HB0.out.size)
      clear HB0
      have HB0 : Hid (Below w.heap.size w v4) := HBn.out
      clear HBn
      have Icoefsn : Hid (IntsAt v4 coefso coefs) := Icoefs.out.below hb
      clear Icoefs
      have Icoefs : Hid (IntsAt v4 coefso coefs) := Icoefsn.out
      clear Icoefsn
      have Iln : Hid (IntsAt v4 lo l) := Il.out.below hb
      clear Il
      have Il : Hid (IntsAt v4 lo l) := Iln.out
      clear Iln
      clear hb
      have Ix : Hid (IntsAt v4 xa S) := h1
      clear h1
      go_wp2_with fail
      refine (KT.out v4 xa xc Ix.out).mono ?_
      intro e v5 hret
      obtain ⟨ya, yc, rfl, h1, hb⟩ := ret2_yes hret
      clear hret
      have HBn : Hid (Below w.heap.size w v5) := HB0.out.trans (hb.mono HB0.out.size)
      clear HB0
      have HB0 : Hid (Below w.heap.size w v5) := HBn.out
      clear HBn
      have Icoefsn : Hid (IntsAt v5 coefso coefs) := Icoefs.out.below hb
      clear Icoefs
      have Icoefs : Hid (IntsAt v5 coefso coefs) := Icoefsn.out
      clear Icoefsn
      have Iln : Hid (IntsAt v5 lo l) := Il.out.below hb
      clear Il
      have Il : Hid (IntsAt v5 lo l) := Iln.out
      clear Iln
      have Ixn : Hid (IntsAt v5 xa S) := Ix.out.below hb
      clear Ix
      have Ix : Hid (IntsAt v5 xa S) := Ixn.out
      clear Ixn
      clear hb
      have Iy : Hid (IntsAt v5 ya l) := h1
      clear h1
      go_wp2_with fail
      refine (same_same l _ _ yc lc v5 Iy.out Il.out).mono ?_
      rintro e v6 ⟨rfl, nn, hq⟩
      have hb : Below v5.heap.size v5 v6 := by rw [hq]; exact below_drewN _ _
      clear hq
      have HBn : Hid (Below w.heap.size w v6) := HB0.out.trans (hb.mono HB0.out.size)
      clear HB0
      have HB0 : Hid (Below w.heap.size w v6) := HBn.out
      clear HBn
      have Icoefsn : Hid (IntsAt v6 coefso coefs) := Icoefs.out.below hb
      clear Icoefs
      have Icoefs : Hid (IntsAt v6 coefso coefs) := Icoefsn.out
      clear Icoefsn
      have Iln : Hid (IntsAt v6 lo l) := Il.out.below hb
      clear Il
      have Il : Hid (IntsAt v6 lo l) := Iln.out
      clear Iln
      have Ixn : Hid (IntsAt v6 xa S) := Ix.out.below hb
      clear Ix
      have Ix : Hid (IntsAt v6 xa S) := Ixn.out
      clear Ixn
      have Iyn : Hid (IntsAt v6 ya l) := Iy.out.below hb
      clear Iy
      have Iy : Hid (IntsAt v6 ya l) := Iyn.out
      clear Iyn
      clear hb
      go_wp2_with fail
      refine (KAw.out v6 HB0.out).mono ?_
      rintro e vz ⟨rfl, hb⟩
      have HBn : Hid (Below w.heap.size w vz) := HB0.out.trans (hb.mono HB0.out.size)
      clear HB0
      have HB0 : Hid (Below w.heap.size w vz) := HBn.out
      clear HBn
      have Icoefsn : Hid (IntsAt vz coefso coefs) := Icoefs.out.below hb
      clear Icoefs
      have Icoefs : Hid (IntsAt vz coefso coefs) := Icoefsn.out
      clear Icoefsn
      have Iln : Hid (IntsAt vz lo l) := Il.out.below hb
      clear Il
      have Il : Hid (IntsAt vz lo l) := Iln.out
      clear Iln
      have Ixn : Hid (IntsAt vz xa S) := Ix.out.below hb
      clear Ix
      have Ix : Hid (IntsAt vz xa S) := Ixn.out
      clear Ixn
      have Iyn : Hid (IntsAt vz ya l) := Iy.out.below hb
      clear Iy
      have Iy : Hid (IntsAt vz ya l) := Iyn.out
      clear Iyn
      clear hb
      go_wp2_with fail
      go_ret
      exact ⟨rfl, HB0.out⟩

    | some B =>
      have KF : Hid (∀ wx, IntsAt wx lo l → Calls Tryd.prog 9 #[.int .i64 na, .slice lo l.length lc] wx (Ret2 (none) wx)) := fun wx g => by rw [← hA]; exact qfixed_spec na l lo lc hlc wx g
      have KL : Hid (∀ wx, IntsAt wx coefso coefs → IntsAt wx lo l → Calls Tryd.prog 15 #[.slice coefso coefs.length coefsc, .int .i64 nb, .slice lo l.length lc] wx (Ret2 (some B) wx)) := fun wx g h => by rw [← hB]; exact qlpc_spec coefs l nb coefso lo coefsc lc hlc wx g h
      obtain ⟨hCl, hBl, hV⟩ := lpc_back hrl hB
      have hsB : ∀ w, (Instr.slice 22 (.slice lo l.length lc) none (some (.int .i64 (coefs.length : Int))) none).run Tryd.prog w = .ok (.slice lo coefs.length lc) w := fun w => slice_pre lo l.length lc coefs.length hCl hlc w
      have KV : Hid (∀ wx ra rc, IntsAt wx coefso coefs → IntsAt wx lo l → IntsAt wx ra B → Calls Tryd.prog 17 #[.slice coefso coefs.length coefsc, .int .i64 nb, .slice lo coefs.length lc, .slice ra B.length rc] wx (Ret2 (some l) wx)) := fun wx ra rc f g h => by
        have hk := qunlpc_spec coefs (l.take coefs.length) B nb coefso lo ra coefsc lc rc (by omega) wx f (ints_pre g coefs.length hCl) h
        rw [hV, List.length_take, Nat.min_eq_left hCl] at hk
        exact hk
      clear hV
      clear hA hB hrl
      have HTW : Hid ((w.alloc (.cells #[.int .i64 na, .int .i64 nb] 47)).heap[w.heap.size]? = some (.cells #[.int .i64 na, .int .i64 nb] 47 (0, 0))) := heap_alloc_new _ _
      have HBL : Hid (Below w.heap.size w (w.alloc (.cells #[.int .i64 na, .int .i64 nb] 47))) := (Below.refl _ _).alloc (Nat.le_refl _) _
      go_enter Tryd.func7, Tryd.ntmps7
      go_upto_region 1 with fail
      generalize hwa : w.alloc _ = wa at *
      have t0 : wa.cell? ⟨w.heap.size, 0, none⟩ = some (.int .i64 na) := by rw [cell_row HTW.out]; rfl
      have t1 : wa.cell? ⟨w.heap.size, 1, none⟩ = some (.int .i64 nb) := by rw [cell_row HTW.out]; rfl
      clear hwa
      go_quiet (fail)
      have hb : Below w.heap.size w (wa.drewN nq) := Below.drewN HBL.out nq
      generalize wa.drewN nq = wb at *
      clear t0 t1 HTW HBL
      have HBn : Hid (Below w.heap.size w wb) := HB0.out.trans (hb.mono HB0.out.size)
      clear HB0
      have HB0 : Hid (Below w.heap.size w wb) := HBn.out
      clear HBn
      have Icoefsn : Hid (IntsAt wb coefso coefs) := Icoefs.out.below hb
      clear Icoefs
      have Icoefs : Hid (IntsAt wb coefso coefs) := Icoefsn.out
      clear Icoefsn
      have Iln : Hid (IntsAt wb lo l) := Il.out.below hb
      clear Il
      have Il : Hid (IntsAt wb lo l) := Iln.out
      clear Iln
      clear hb
      go_wp2_with fail
      refine (KF.out wb Il.out).mono ?_
      intro e v1 hret
      obtain ⟨pa, pc, rfl, hb⟩ := ret2_no hret
      clear hret
      have HBn : Hid (Below w.heap.size w v1) := HB0.out.trans (hb.mono HB0.out.size)
      clear HB0
      have HB0 : Hid (Below w.heap.size w v1) := HBn.out
      clear HBn
      have Icoefsn : Hid (IntsAt v1 coefso coefs) := Icoefs.out.below hb
      clear Icoefs
      have Icoefs : Hid (IntsAt v1 coefso coefs) := Icoefsn.out
      clear Icoefsn
      have Iln : Hid (IntsAt v1 lo l) := Il.out.below hb
      clear Il
      have Il : Hid (IntsAt v1 lo l) := Iln.out
      clear Iln
      clear hb
      go_wp2_with fail
      refine (KL.out v1 Icoefs.out Il.out).mono ?_
      intro e v2 hret
      obtain ⟨ra, rc, rfl, h1, hb⟩ := ret2_yes hret
      clear hret
      have HBn : Hid (Below w.heap.size w v2) := HB0.out.trans (hb.mono HB0.out.size)
      clear HB0
      have HB0 : Hid (Below w.heap.size w v2) := HBn.out
      clear HBn
      have Icoefsn : Hid (IntsAt v2 coefso coefs) := Icoefs.out.below hb
      clear Icoefs
      have Icoefs : Hid (IntsAt v2 coefso coefs) := Icoefsn.out
      clear Icoefsn
      have Iln : Hid (IntsAt v2 lo l) := Il.out.below hb
      clear Il
      have Il : Hid (IntsAt v2 lo l) := Iln.out
      clear Iln
      clear hb
      have Ir : Hid (IntsAt v2 ra B) := h1
      clear h1
      go_wp2_with fail
      refine (KV.out v2 ra rc Icoefs.out Il.out Ir.out).mono ?_
      intro e v3 hret
      obtain ⟨sa, sc, rfl, h1, hb⟩ := ret2_yes hret
      clear hret
      have HBn : Hid (Below w.heap.size w v3) := HB0.out.trans (hb.mono HB0.out.size)
      clear HB0
      have HB0 : Hid (Below w.heap.size w v3) := HBn.out
      clear HBn
      have Icoefsn : Hid (IntsAt v3 coefso coefs) := Icoefs.out.below hb
      clear Icoefs
      have Icoefs : Hid (IntsAt v3 coefso coefs) := Icoefsn.out
      clear Icoefsn
      have Iln : Hid (IntsAt v3 lo l) := Il.out.below hb
      clear Il
      have Il : Hid (IntsAt v3 lo l) := Iln.out
      clear Iln
      have Irn : Hid (IntsAt v3 ra B) := Ir.out.below hb
      clear Ir
      have Ir : Hid (IntsAt v3 ra B) := Irn.out
      clear Irn
      clear hb
      have Is : Hid (IntsAt v3 sa l) := h1
      clear h1
      go_wp2_with fail
      refine (same_same l _ _ sc lc v3 Is.out Il.out).mono ?_
      rintro e v4 ⟨rfl, nn, hq⟩
      have hb : Below v3.heap.size v3 v4 := by rw [hq]; exact below_drewN _ _
      clear hq
      have HBn : Hid (Below w.heap.size w v4) := HB0.out.trans (hb.mono HB0.out.size)
      clear HB0
      have HB0 : Hid (Below w.heap.size w v4) := HBn.out
      clear HBn
      have Icoefsn : Hid (IntsAt v4 coefso coefs) := Icoefs.out.below hb
      clear Icoefs
      have Icoefs : Hid (IntsAt v4 coefso coefs) := Icoefsn.out
      clear Icoefsn
      have Iln : Hid (IntsAt v4 lo l) := Il.out.below hb
      clear Il
      have Il : Hid (IntsAt v4 lo l) := Iln.out
      clear Iln
      have Irn : Hid (IntsAt v4 ra B) := Ir.out.below hb
      clear Ir
      have Ir : Hid (IntsAt v4 ra B) := Irn.out
      clear Irn
      have Isn : Hid (IntsAt v4 sa l) := Is.out.below hb
      clear Is
      have Is : Hid (IntsAt v4 sa l) := Isn.out
      clear Isn
      clear hb
      go_wp2_with fail
      refine (KW.out v4 HB0.out Il.out).mono ?_
      rintro e v5 ⟨rfl, hb⟩
      have HBn : Hid (Below w.heap.size w v5) := HB0.out.trans (hb.mono HB0.out.size)
      clear HB0
      have HB0 : Hid (Below w.heap.size w v5) := HBn.out
      clear HBn
      have Icoefsn : Hid (IntsAt v5 coefso coefs) := Icoefs.out.below hb
      clear Icoefs
      have Icoefs : Hid (IntsAt v5 coefso coefs) := Icoefsn.out
      clear Icoefsn
      have Iln : Hid (IntsAt v5 lo l) := Il.out.below hb
      clear Il
      have Il : Hid (IntsAt v5 lo l) := Iln.out
      clear Iln
      have Irn : Hid (IntsAt v5 ra B) := Ir.out.below hb
      clear Ir
      have Ir : Hid (IntsAt v5 ra B) := Irn.out
      clear Irn
      have Isn : Hid (IntsAt v5 sa l) := Is.out.below hb
      clear Is
      have Is : Hid (IntsAt v5 sa l) := Isn.out
      clear Isn
      clear hb
      go_wp2_with fail
      refine (KS.out v5 Il.out).mono ?_
      intro e v6 hret
      obtain ⟨xa, xc, rfl, h1, hb⟩ := ret2_yes hret
      clear hret
      have HBn : Hid (Below w.heap.size w v6) := HB0.out.trans (hb.mono HB0.out.size)
      clear HB0
      have HB0 : Hid (Below w.heap.size w v6) := HBn.out
      clear HBn
      have Icoefsn : Hid (IntsAt v6 coefso coefs) := Icoefs.out.below hb
      clear Icoefs
      have Icoefs : Hid (IntsAt v6 coefso coefs) := Icoefsn.out
      clear Icoefsn
      have Iln : Hid (IntsAt v6 lo l) := Il.out.below hb
      clear Il
      have Il : Hid (IntsAt v6 lo l) := Iln.out
      clear Iln
      have Irn : Hid (IntsAt v6 ra B) := Ir.out.below hb
      clear Ir
      have Ir : Hid (IntsAt v6 ra B) := Irn.out
      clear Irn
      have Isn : Hid (IntsAt v6 sa l) := Is.out.below hb
      clear Is
      have Is : Hid (IntsAt v6 sa l) := Isn.out
      clear Isn
      clear hb
      have Ix : Hid (IntsAt v6 xa S) := h1
      clear h1
      go_wp2_with fail
      refine (KT.out v6 xa xc Ix.out).mono ?_
      intro e v7 hret
      obtain ⟨ya, yc, rfl, h1, hb⟩ := ret2_yes hret
      clear hret
      have HBn : Hid (Below w.heap.size w v7) := HB0.out.trans (hb.mono HB0.out.size)
      clear HB0
      have HB0 : Hid (Below w.heap.size w v7) := HBn.out
      clear HBn
      have Icoefsn : Hid (IntsAt v7 coefso coefs) := Icoefs.out.below hb
      clear Icoefs
      have Icoefs : Hid (IntsAt v7 coefso coefs) := Icoefsn.out
      clear Icoefsn
      have Iln : Hid (IntsAt v7 lo l) := Il.out.below hb
      clear Il
      have Il : Hid (IntsAt v7 lo l) := Iln.out
      clear Iln
      have Irn : Hid (IntsAt v7 ra B) := Ir.out.below hb
      clear Ir
      have Ir : Hid (IntsAt v7 ra B) := Irn.out
      clear Irn
      have Isn : Hid (IntsAt v7 sa l) := Is.out.below hb
      clear Is
      have Is : Hid (IntsAt v7 sa l) := Isn.out
      clear Isn
      have Ixn : Hid (IntsAt v7 xa S) := Ix.out.below hb
      clear Ix
      have Ix : Hid (IntsAt v7 xa S) := Ixn.out
      clear Ixn
      clear hb
      have Iy : Hid (IntsAt v7 ya l) := h1
      clear h1
      go_wp2_with fail
      refine (same_same l _ _ yc lc v7 Iy.out Il.out).mono ?_
      rintro e v8 ⟨rfl, nn, hq⟩
      have hb : Below v7.heap.size v7 v8 := by rw [hq]; exact below_drewN _ _
      clear hq
      have HBn : Hid (Below w.heap.size w v8) := HB0.out.trans (hb.mono HB0.out.size)
      clear HB0
      have HB0 : Hid (Below w.heap.size w v8) := HBn.out
      clear HBn
      have Icoefsn : Hid (IntsAt v8 coefso coefs) := Icoefs.out.below hb
      clear Icoefs
      have Icoefs : Hid (IntsAt v8 coefso coefs) := Icoefsn.out
      clear Icoefsn
      have Iln : Hid (IntsAt v8 lo l) := Il.out.below hb
      clear Il
      have Il : Hid (IntsAt v8 lo l) := Iln.out
      clear Iln
      have Irn : Hid (IntsAt v8 ra B) := Ir.out.below hb
      clear Ir
      have Ir : Hid (IntsAt v8 ra B) := Irn.out
      clear Irn
      have Isn : Hid (IntsAt v8 sa l) := Is.out.below hb
      clear Is
      have Is : Hid (IntsAt v8 sa l) := Isn.out
      clear Isn
      have Ixn : Hid (IntsAt v8 xa S) := Ix.out.below hb
      clear Ix
      have Ix : Hid (IntsAt v8 xa S) := Ixn.out
      clear Ixn
      have Iyn : Hid (IntsAt v8 ya l) := Iy.out.below hb
      clear Iy
      have Iy : Hid (IntsAt v8 ya l) := Iyn.out
      clear Iyn
      clear hb
      go_wp2_with fail
      refine (KAw.out v8 HB0.out).mono ?_
      rintro e vz ⟨rfl, hb⟩
      have HBn : Hid (Below w.heap.size w vz) := HB0.out.trans (hb.mono HB0.out.size)
      clear HB0
      have HB0 : Hid (Below w.heap.size w vz) := HBn.out
      clear HBn
      have Icoefsn : Hid (IntsAt vz coefso coefs) := Icoefs.out.below hb
      clear Icoefs
      have Icoefs : Hid (IntsAt vz coefso coefs) := Icoefsn.out
      clear Icoefsn
      have Iln : Hid (IntsAt vz lo l) := Il.out.below hb
      clear Il
      have Il : Hid (IntsAt vz lo l) := Iln.out
      clear Iln
      have Irn : Hid (IntsAt vz ra B) := Ir.out.below hb
      clear Ir
      have Ir : Hid (IntsAt vz ra B) := Irn.out
      clear Irn
      have Isn : Hid (IntsAt vz sa l) := Is.out.below hb
      clear Is
      have Is : Hid (IntsAt vz sa l) := Isn.out
      clear Isn
      have Ixn : Hid (IntsAt vz xa S) := Ix.out.below hb
      clear Ix
      have Ix : Hid (IntsAt vz xa S) := Ixn.out
      clear Ixn
      have Iyn : Hid (IntsAt vz ya l) := Iy.out.below hb
      clear Iy
      have Iy : Hid (IntsAt vz ya l) := Iyn.out
      clear Iyn
      clear hb
      go_wp2_with fail
      go_ret
      exact ⟨rfl, HB0.out⟩

  | some A =>
    cases hB : lpcR coefs nb l with
    | none =>
      obtain ⟨o', rfl, hol, ho4, hAl, hU⟩ := fix_back hrl hA
      have hsA : ∀ w, (Instr.slice 22 (.slice lo l.length lc) none (some (.int .i64 (o' : Int))) none).run Tryd.prog w = .ok (.slice lo o' lc) w := fun w => slice_pre lo l.length lc o' hol hlc w
      have KU : Hid (∀ wx pa pc, IntsAt wx lo l → IntsAt wx pa A → Calls Tryd.prog 11 #[.int .i64 (o' : Int), .slice lo o' lc, .slice pa A.length pc] wx (Ret2 (some l) wx)) := fun wx pa pc g h => by
        have hk := qunfixed_spec (o' : Int) (l.take o') A lo pa lc pc (by omega) wx (ints_pre g o' hol) h
        rw [hU, List.length_take, Nat.min_eq_left hol] at hk
        exact hk
      clear hU
      have hol2 : (o' : Int) ≤ (l.length : Int) := by omega
      have KF : Hid (∀ wx, IntsAt wx lo l → Calls Tryd.prog 9 #[.int .i64 (o' : Int), .slice lo l.length lc] wx (Ret2 (some A) wx)) := fun wx g => by rw [← hA]; exact qfixed_spec (o' : Int) l lo lc hlc wx g
      have KL : Hid (∀ wx, IntsAt wx coefso coefs → IntsAt wx lo l → Calls Tryd.prog 15 #[.slice coefso coefs.length coefsc, .int .i64 nb, .slice lo l.length lc] wx (Ret2 (none) wx)) := fun wx g h => by rw [← hB]; exact qlpc_spec coefs l nb coefso lo coefsc lc hlc wx g h
      clear hA hB hrl
      have HTW : Hid ((w.alloc (.cells #[.int .i64 (o' : Int), .int .i64 nb] 47)).heap[w.heap.size]? = some (.cells #[.int .i64 (o' : Int), .int .i64 nb] 47 (0, 0))) := heap_alloc_new _ _
      have HBL : Hid (Below w.heap.size w (w.alloc (.cells #[.int .i64 (o' : Int), .int .i64 nb] 47))) := (Below.refl _ _).alloc (Nat.le_refl _) _
      go_enter Tryd.func7, Tryd.ntmps7
      go_upto_region 1 with fail
      generalize hwa : w.alloc _ = wa at *
      have t0 : wa.cell? ⟨w.heap.size, 0, none⟩ = some (.int .i64 (o' : Int)) := by rw [cell_row HTW.out]; rfl
      have t1 : wa.cell? ⟨w.heap.size, 1, none⟩ = some (.int .i64 nb) := by rw [cell_row HTW.out]; rfl
      clear hwa
      go_quiet (fail)
      have hb : Below w.heap.size w (wa.drewN nq) := Below.drewN HBL.out nq
      generalize wa.drewN nq = wb at *
      clear t0 t1 HTW HBL
      have HBn : Hid (Below w.heap.size w wb) := HB0.out.trans (hb.mono HB0.out.size)
      clear HB0
      have HB0 : Hid (Below w.heap.size w wb) := HBn.out
      clear HBn
      have Icoefsn : Hid (IntsAt wb coefso coefs) := Icoefs.out.below hb
      clear Icoefs
      have Icoefs : Hid (IntsAt wb coefso coefs) := Icoefsn.out
      clear Icoefsn
      have Iln : Hid (IntsAt wb lo l) := Il.out.below hb
      clear Il
      have Il : Hid (IntsAt wb lo l) := Iln.out
      clear Iln
      clear hb
      go_wp2_with fail
      refine (KF.out wb Il.out).mono ?_
      intro e v1 hret
      obtain ⟨pa, pc, rfl, h1, hb⟩ := ret2_yes hret
      clear hret
      have HBn : Hid (Below w.heap.size w v1) := HB0.out.trans (hb.mono HB0.out.size)
      clear HB0
      have HB0 : Hid (Below w.heap.size w v1) := HBn.out
      clear HBn
      have Icoefsn : Hid (IntsAt v1 coefso coefs) := Icoefs.out.below hb
      clear Icoefs
      have Icoefs : Hid (IntsAt v1 coefso coefs) := Icoefsn.out
      clear Icoefsn
      have Iln : Hid (IntsAt v1 lo l) := Il.out.below hb
      clear Il
      have Il : Hid (IntsAt v1 lo l) := Iln.out
      clear Iln
      clear hb
      have Ip : Hid (IntsAt v1 pa A) := h1
      clear h1
      go_wp2_with fail
      refine (KU.out v1 pa pc Il.out Ip.out).mono ?_
      intro e v2 hret
      obtain ⟨qa, qc, rfl, h1, hb⟩ := ret2_yes hret
      clear hret
      have HBn : Hid (Below w.heap.size w v2) := HB0.out.trans (hb.mono HB0.out.size)
      clear HB0
      have HB0 : Hid (Below w.heap.size w v2) := HBn.out
      clear HBn
      have Icoefsn : Hid (IntsAt v2 coefso coefs) := Icoefs.out.below hb
      clear Icoefs
      have Icoefs : Hid (IntsAt v2 coefso coefs) := Icoefsn.out
      clear Icoefsn
      have Iln : Hid (IntsAt v2 lo l) := Il.out.below hb
      clear Il
      have Il : Hid (IntsAt v2 lo l) := Iln.out
      clear Iln
      have Ipn : Hid (IntsAt v2 pa A) := Ip.out.below hb
      clear Ip
      have Ip : Hid (IntsAt v2 pa A) := Ipn.out
      clear Ipn
      clear hb
      have Iq : Hid (IntsAt v2 qa l) := h1
      clear h1
      go_wp2_with fail
      refine (same_same l _ _ qc lc v2 Iq.out Il.out).mono ?_
      rintro e v3 ⟨rfl, nn, hq⟩
      have hb : Below v2.heap.size v2 v3 := by rw [hq]; exact below_drewN _ _
      clear hq
      have HBn : Hid (Below w.heap.size w v3) := HB0.out.trans (hb.mono HB0.out.size)
      clear HB0
      have HB0 : Hid (Below w.heap.size w v3) := HBn.out
      clear HBn
      have Icoefsn : Hid (IntsAt v3 coefso coefs) := Icoefs.out.below hb
      clear Icoefs
      have Icoefs : Hid (IntsAt v3 coefso coefs) := Icoefsn.out
      clear Icoefsn
      have Iln : Hid (IntsAt v3 lo l) := Il.out.below hb
      clear Il
      have Il : Hid (IntsAt v3 lo l) := Iln.out
      clear Iln
      have Ipn : Hid (IntsAt v3 pa A) := Ip.out.below hb
      clear Ip
      have Ip : Hid (IntsAt v3 pa A) := Ipn.out
      clear Ipn
      have Iqn : Hid (IntsAt v3 qa l) := Iq.out.below hb
      clear Iq
      have Iq : Hid (IntsAt v3 qa l) := Iqn.out
      clear Iqn
      clear hb
      go_wp2_with fail
      refine (KL.out v3 Icoefs.out Il.out).mono ?_
      intro e v4 hret
      obtain ⟨ra, rc, rfl, hb⟩ := ret2_no hret
      clear hret
      have HBn : Hid (Below w.heap.size w v4) := HB0.out.trans (hb.mono HB0.out.size)
      clear HB0
      have HB0 : Hid (Below w.heap.size w v4) := HBn.out
      clear HBn
      have Icoefsn : Hid (IntsAt v4 coefso coefs) := Icoefs.out.below hb
      clear Icoefs
      have Icoefs : Hid (IntsAt v4 coefso coefs) := Icoefsn.out
      clear Icoefsn
      have Iln : Hid (IntsAt v4 lo l) := Il.out.below hb
      clear Il
      have Il : Hid (IntsAt v4 lo l) := Iln.out
      clear Iln
      have Ipn : Hid (IntsAt v4 pa A) := Ip.out.below hb
      clear Ip
      have Ip : Hid (IntsAt v4 pa A) := Ipn.out
      clear Ipn
      have Iqn : Hid (IntsAt v4 qa l) := Iq.out.below hb
      clear Iq
      have Iq : Hid (IntsAt v4 qa l) := Iqn.out
      clear Iqn
      clear hb
      go_wp2_with fail
      refine (KW.out v4 HB0.out Il.out).mono ?_
      rintro e v5 ⟨rfl, hb⟩
      have HBn : Hid (Below w.heap.size w v5) := HB0.out.trans (hb.mono HB0.out.size)
      clear HB0
      have HB0 : Hid (Below w.heap.size w v5) := HBn.out
      clear HBn
      have Icoefsn : Hid (IntsAt v5 coefso coefs) := Icoefs.out.below hb
      clear Icoefs
      have Icoefs : Hid (IntsAt v5 coefso coefs) := Icoefsn.out
      clear Icoefsn
      have Iln : Hid (IntsAt v5 lo l) := Il.out.below hb
      clear Il
      have Il : Hid (IntsAt v5 lo l) := Iln.out
      clear Iln
      have Ipn : Hid (IntsAt v5 pa A) := Ip.out.below hb
      clear Ip
      have Ip : Hid (IntsAt v5 pa A) := Ipn.out
      clear Ipn
      have Iqn : Hid (IntsAt v5 qa l) := Iq.out.below hb
      clear Iq
      have Iq : Hid (IntsAt v5 qa l) := Iqn.out
      clear Iqn
      clear hb
      go_wp2_with fail
      refine (KS.out v5 Il.out).mono ?_
      intro e v6 hret
      obtain ⟨xa, xc, rfl, h1, hb⟩ := ret2_yes hret
      clear hret
      have HBn : Hid (Below w.heap.size w v6) := HB0.out.trans (hb.mono HB0.out.size)
      clear HB0
      have HB0 : Hid (Below w.heap.size w v6) := HBn.out
      clear HBn
      have Icoefsn : Hid (IntsAt v6 coefso coefs) := Icoefs.out.below hb
      clear Icoefs
      have Icoefs : Hid (IntsAt v6 coefso coefs) := Icoefsn.out
      clear Icoefsn
      have Iln : Hid (IntsAt v6 lo l) := Il.out.below hb
      clear Il
      have Il : Hid (IntsAt v6 lo l) := Iln.out
      clear Iln
      have Ipn : Hid (IntsAt v6 pa A) := Ip.out.below hb
      clear Ip
      have Ip : Hid (IntsAt v6 pa A) := Ipn.out
      clear Ipn
      have Iqn : Hid (IntsAt v6 qa l) := Iq.out.below hb
      clear Iq
      have Iq : Hid (IntsAt v6 qa l) := Iqn.out
      clear Iqn
      clear hb
      have Ix : Hid (IntsAt v6 xa S) := h1
      clear h1
      go_wp2_with fail
      refine (KT.out v6 xa xc Ix.out).mono ?_
      intro e v7 hret
      obtain ⟨ya, yc, rfl, h1, hb⟩ := ret2_yes hret
      clear hret
      have HBn : Hid (Below w.heap.size w v7) := HB0.out.trans (hb.mono HB0.out.size)
      clear HB0
      have HB0 : Hid (Below w.heap.size w v7) := HBn.out
      clear HBn
      have Icoefsn : Hid (IntsAt v7 coefso coefs) := Icoefs.out.below hb
      clear Icoefs
      have Icoefs : Hid (IntsAt v7 coefso coefs) := Icoefsn.out
      clear Icoefsn
      have Iln : Hid (IntsAt v7 lo l) := Il.out.below hb
      clear Il
      have Il : Hid (IntsAt v7 lo l) := Iln.out
      clear Iln
      have Ipn : Hid (IntsAt v7 pa A) := Ip.out.below hb
      clear Ip
      have Ip : Hid (IntsAt v7 pa A) := Ipn.out
      clear Ipn
      have Iqn : Hid (IntsAt v7 qa l) := Iq.out.below hb
      clear Iq
      have Iq : Hid (IntsAt v7 qa l) := Iqn.out
      clear Iqn
      have Ixn : Hid (IntsAt v7 xa S) := Ix.out.below hb
      clear Ix
      have Ix : Hid (IntsAt v7 xa S) := Ixn.out
      clear Ixn
      clear hb
      have Iy : Hid (IntsAt v7 ya l) := h1
      clear h1
      go_wp2_with fail
      refine (same_same l _ _ yc lc v7 Iy.out Il.out).mono ?_
      rintro e v8 ⟨rfl, nn, hq⟩
      have hb : Below v7.heap.size v7 v8 := by rw [hq]; exact below_drewN _ _
      clear hq
      have HBn : Hid (Below w.heap.size w v8) := HB0.out.trans (hb.mono HB0.out.size)
      clear HB0
      have HB0 : Hid (Below w.heap.size w v8) := HBn.out
      clear HBn
      have Icoefsn : Hid (IntsAt v8 coefso coefs) := Icoefs.out.below hb
      clear Icoefs
      have Icoefs : Hid (IntsAt v8 coefso coefs) := Icoefsn.out
      clear Icoefsn
      have Iln : Hid (IntsAt v8 lo l) := Il.out.below hb
      clear Il
      have Il : Hid (IntsAt v8 lo l) := Iln.out
      clear Iln
      have Ipn : Hid (IntsAt v8 pa A) := Ip.out.below hb
      clear Ip
      have Ip : Hid (IntsAt v8 pa A) := Ipn.out
      clear Ipn
      have Iqn : Hid (IntsAt v8 qa l) := Iq.out.below hb
      clear Iq
      have Iq : Hid (IntsAt v8 qa l) := Iqn.out
      clear Iqn
      have Ixn : Hid (IntsAt v8 xa S) := Ix.out.below hb
      clear Ix
      have Ix : Hid (IntsAt v8 xa S) := Ixn.out
      clear Ixn
      have Iyn : Hid (IntsAt v8 ya l) := Iy.out.below hb
      clear Iy
      have Iy : Hid (IntsAt v8 ya l) := Iyn.out
      clear Iyn
      clear hb
      go_wp2_with fail
      refine (KAw.out v8 HB0.out).mono ?_
      rintro e vz ⟨rfl, hb⟩
      have HBn : Hid (Below w.heap.size w vz) := HB0.out.trans (hb.mono HB0.out.size)
      clear HB0
      have HB0 : Hid (Below w.heap.size w vz) := HBn.out
      clear HBn
      have Icoefsn : Hid (IntsAt vz coefso coefs) := Icoefs.out.below hb
      clear Icoefs
      have Icoefs : Hid (IntsAt vz coefso coefs) := Icoefsn.out
      clear Icoefsn
      have Iln : Hid (IntsAt vz lo l) := Il.out.below hb
      clear Il
      have Il : Hid (IntsAt vz lo l) := Iln.out
      clear Iln
      have Ipn : Hid (IntsAt vz pa A) := Ip.out.below hb
      clear Ip
      have Ip : Hid (IntsAt vz pa A) := Ipn.out
      clear Ipn
      have Iqn : Hid (IntsAt vz qa l) := Iq.out.below hb
      clear Iq
      have Iq : Hid (IntsAt vz qa l) := Iqn.out
      clear Iqn
      have Ixn : Hid (IntsAt vz xa S) := Ix.out.below hb
      clear Ix
      have Ix : Hid (IntsAt vz xa S) := Ixn.out
      clear Ixn
      have Iyn : Hid (IntsAt vz ya l) := Iy.out.below hb
      clear Iy
      have Iy : Hid (IntsAt vz ya l) := Iyn.out
      clear Iyn
      clear hb
      go_wp2_with fail
      go_ret
      exact ⟨rfl, HB0.out⟩

    | some B =>
      obtain ⟨o', rfl, hol, ho4, hAl, hU⟩ := fix_back hrl hA
      have hsA : ∀ w, (Instr.slice 22 (.slice lo l.length lc) none (some (.int .i64 (o' : Int))) none).run Tryd.prog w = .ok (.slice lo o' lc) w := fun w => slice_pre lo l.length lc o' hol hlc w
      have KU : Hid (∀ wx pa pc, IntsAt wx lo l → IntsAt wx pa A → Calls Tryd.prog 11 #[.int .i64 (o' : Int), .slice lo o' lc, .slice pa A.length pc] wx (Ret2 (some l) wx)) := fun wx pa pc g h => by
        have hk := qunfixed_spec (o' : Int) (l.take o') A lo pa lc pc (by omega) wx (ints_pre g o' hol) h
        rw [hU, List.length_take, Nat.min_eq_left hol] at hk
        exact hk
      clear hU
      have hol2 : (o' : Int) ≤ (l.length : Int) := by omega
      have KF : Hid (∀ wx, IntsAt wx lo l → Calls Tryd.prog 9 #[.int .i64 (o' : Int), .slice lo l.length lc] wx (Ret2 (some A) wx)) := fun wx g => by rw [← hA]; exact qfixed_spec (o' : Int) l lo lc hlc wx g
      have KL : Hid (∀ wx, IntsAt wx coefso coefs → IntsAt wx lo l → Calls Tryd.prog 15 #[.slice coefso coefs.length coefsc, .int .i64 nb, .slice lo l.length lc] wx (Ret2 (some B) wx)) := fun wx g h => by rw [← hB]; exact qlpc_spec coefs l nb coefso lo coefsc lc hlc wx g h
      obtain ⟨hCl, hBl, hV⟩ := lpc_back hrl hB
      have hsB : ∀ w, (Instr.slice 22 (.slice lo l.length lc) none (some (.int .i64 (coefs.length : Int))) none).run Tryd.prog w = .ok (.slice lo coefs.length lc) w := fun w => slice_pre lo l.length lc coefs.length hCl hlc w
      have KV : Hid (∀ wx ra rc, IntsAt wx coefso coefs → IntsAt wx lo l → IntsAt wx ra B → Calls Tryd.prog 17 #[.slice coefso coefs.length coefsc, .int .i64 nb, .slice lo coefs.length lc, .slice ra B.length rc] wx (Ret2 (some l) wx)) := fun wx ra rc f g h => by
        have hk := qunlpc_spec coefs (l.take coefs.length) B nb coefso lo ra coefsc lc rc (by omega) wx f (ints_pre g coefs.length hCl) h
        rw [hV, List.length_take, Nat.min_eq_left hCl] at hk
        exact hk
      clear hV
      clear hA hB hrl
      have HTW : Hid ((w.alloc (.cells #[.int .i64 (o' : Int), .int .i64 nb] 47)).heap[w.heap.size]? = some (.cells #[.int .i64 (o' : Int), .int .i64 nb] 47 (0, 0))) := heap_alloc_new _ _
      have HBL : Hid (Below w.heap.size w (w.alloc (.cells #[.int .i64 (o' : Int), .int .i64 nb] 47))) := (Below.refl _ _).alloc (Nat.le_refl _) _
      go_enter Tryd.func7, Tryd.ntmps7
      go_upto_region 1 with fail
      generalize hwa : w.alloc _ = wa at *
      have t0 : wa.cell? ⟨w.heap.size, 0, none⟩ = some (.int .i64 (o' : Int)) := by rw [cell_row HTW.out]; rfl
      have t1 : wa.cell? ⟨w.heap.size, 1, none⟩ = some (.int .i64 nb) := by rw [cell_row HTW.out]; rfl
      clear hwa
      go_quiet (fail)
      have hb : Below w.heap.size w (wa.drewN nq) := Below.drewN HBL.out nq
      generalize wa.drewN nq = wb at *
      clear t0 t1 HTW HBL
      have HBn : Hid (Below w.heap.size w wb) := HB0.out.trans (hb.mono HB0.out.size)
      clear HB0
      have HB0 : Hid (Below w.heap.size w wb) := HBn.out
      clear HBn
      have Icoefsn : Hid (IntsAt wb coefso coefs) := Icoefs.out.below hb
      clear Icoefs
      have Icoefs : Hid (IntsAt wb coefso coefs) := Icoefsn.out
      clear Icoefsn
      have Iln : Hid (IntsAt wb lo l) := Il.out.below hb
      clear Il
      have Il : Hid (IntsAt wb lo l) := Iln.out
      clear Iln
      clear hb
      go_wp2_with fail
      refine (KF.out wb Il.out).mono ?_
      intro e v1 hret
      obtain ⟨pa, pc, rfl, h1, hb⟩ := ret2_yes hret
      clear hret
      have HBn : Hid (Below w.heap.size w v1) := HB0.out.trans (hb.mono HB0.out.size)
      clear HB0
      have HB0 : Hid (Below w.heap.size w v1) := HBn.out
      clear HBn
      have Icoefsn : Hid (IntsAt v1 coefso coefs) := Icoefs.out.below hb
      clear Icoefs
      have Icoefs : Hid (IntsAt v1 coefso coefs) := Icoefsn.out
      clear Icoefsn
      have Iln : Hid (IntsAt v1 lo l) := Il.out.below hb
      clear Il
      have Il : Hid (IntsAt v1 lo l) := Iln.out
      clear Iln
      clear hb
      have Ip : Hid (IntsAt v1 pa A) := h1
      clear h1
      go_wp2_with fail
      refine (KU.out v1 pa pc Il.out Ip.out).mono ?_
      intro e v2 hret
      obtain ⟨qa, qc, rfl, h1, hb⟩ := ret2_yes hret
      clear hret
      have HBn : Hid (Below w.heap.size w v2) := HB0.out.trans (hb.mono HB0.out.size)
      clear HB0
      have HB0 : Hid (Below w.heap.size w v2) := HBn.out
      clear HBn
      have Icoefsn : Hid (IntsAt v2 coefso coefs) := Icoefs.out.below hb
      clear Icoefs
      have Icoefs : Hid (IntsAt v2 coefso coefs) := Icoefsn.out
      clear Icoefsn
      have Iln : Hid (IntsAt v2 lo l) := Il.out.below hb
      clear Il
      have Il : Hid (IntsAt v2 lo l) := Iln.out
      clear Iln
      have Ipn : Hid (IntsAt v2 pa A) := Ip.out.below hb
      clear Ip
      have Ip : Hid (IntsAt v2 pa A) := Ipn.out
      clear Ipn
      clear hb
      have Iq : Hid (IntsAt v2 qa l) := h1
      clear h1
      go_wp2_with fail
      refine (same_same l _ _ qc lc v2 Iq.out Il.out).mono ?_
      rintro e v3 ⟨rfl, nn, hq⟩
      have hb : Below v2.heap.size v2 v3 := by rw [hq]; exact below_drewN _ _
      clear hq
      have HBn : Hid (Below w.heap.size w v3) := HB0.out.trans (hb.mono HB0.out.size)
      clear HB0
      have HB0 : Hid (Below w.heap.size w v3) := HBn.out
      clear HBn
      have Icoefsn : Hid (IntsAt v3 coefso coefs) := Icoefs.out.below hb
      clear Icoefs
      have Icoefs : Hid (IntsAt v3 coefso coefs) := Icoefsn.out
      clear Icoefsn
      have Iln : Hid (IntsAt v3 lo l) := Il.out.below hb
      clear Il
      have Il : Hid (IntsAt v3 lo l) := Iln.out
      clear Iln
      have Ipn : Hid (IntsAt v3 pa A) := Ip.out.below hb
      clear Ip
      have Ip : Hid (IntsAt v3 pa A) := Ipn.out
      clear Ipn
      have Iqn : Hid (IntsAt v3 qa l) := Iq.out.below hb
      clear Iq
      have Iq : Hid (IntsAt v3 qa l) := Iqn.out
      clear Iqn
      clear hb
      go_wp2_with fail
      refine (KL.out v3 Icoefs.out Il.out).mono ?_
      intro e v4 hret
      obtain ⟨ra, rc, rfl, h1, hb⟩ := ret2_yes hret
      clear hret
      have HBn : Hid (Below w.heap.size w v4) := HB0.out.trans (hb.mono HB0.out.size)
      clear HB0
      have HB0 : Hid (Below w.heap.size w v4) := HBn.out
      clear HBn
      have Icoefsn : Hid (IntsAt v4 coefso coefs) := Icoefs.out.below hb
      clear Icoefs
      have Icoefs : Hid (IntsAt v4 coefso coefs) := Icoefsn.out
      clear Icoefsn
      have Iln : Hid (IntsAt v4 lo l) := Il.out.below hb
      clear Il
      have Il : Hid (IntsAt v4 lo l) := Iln.out
      clear Iln
      have Ipn : Hid (IntsAt v4 pa A) := Ip.out.below hb
      clear Ip
      have Ip : Hid (IntsAt v4 pa A) := Ipn.out
      clear Ipn
      have Iqn : Hid (IntsAt v4 qa l) := Iq.out.below hb
      clear Iq
      have Iq : Hid (IntsAt v4 qa l) := Iqn.out
      clear Iqn
      clear hb
      have Ir : Hid (IntsAt v4 ra B) := h1
      clear h1
      go_wp2_with fail
      refine (KV.out v4 ra rc Icoefs.out Il.out Ir.out).mono ?_
      intro e v5 hret
      obtain ⟨sa, sc, rfl, h1, hb⟩ := ret2_yes hret
      clear hret
      have HBn : Hid (Below w.heap.size w v5) := HB0.out.trans (hb.mono HB0.out.size)
      clear HB0
      have HB0 : Hid (Below w.heap.size w v5) := HBn.out
      clear HBn
      have Icoefsn : Hid (IntsAt v5 coefso coefs) := Icoefs.out.below hb
      clear Icoefs
      have Icoefs : Hid (IntsAt v5 coefso coefs) := Icoefsn.out
      clear Icoefsn
      have Iln : Hid (IntsAt v5 lo l) := Il.out.below hb
      clear Il
      have Il : Hid (IntsAt v5 lo l) := Iln.out
      clear Iln
      have Ipn : Hid (IntsAt v5 pa A) := Ip.out.below hb
      clear Ip
      have Ip : Hid (IntsAt v5 pa A) := Ipn.out
      clear Ipn
      have Iqn : Hid (IntsAt v5 qa l) := Iq.out.below hb
      clear Iq
      have Iq : Hid (IntsAt v5 qa l) := Iqn.out
      clear Iqn
      have Irn : Hid (IntsAt v5 ra B) := Ir.out.below hb
      clear Ir
      have Ir : Hid (IntsAt v5 ra B) := Irn.out
      clear Irn
      clear hb
      have Is : Hid (IntsAt v5 sa l) := h1
      clear h1
      go_wp2_with fail
      refine (same_same l _ _ sc lc v5 Is.out Il.out).mono ?_
      rintro e v6 ⟨rfl, nn, hq⟩
      have hb : Below v5.heap.size v5 v6 := by rw [hq]; exact below_drewN _ _
      clear hq
      have HBn : Hid (Below w.heap.size w v6) := HB0.out.trans (hb.mono HB0.out.size)
      clear HB0
      have HB0 : Hid (Below w.heap.size w v6) := HBn.out
      clear HBn
      have Icoefsn : Hid (IntsAt v6 coefso coefs) := Icoefs.out.below hb
      clear Icoefs
      have Icoefs : Hid (IntsAt v6 coefso coefs) := Icoefsn.out
      clear Icoefsn
      have Iln : Hid (IntsAt v6 lo l) := Il.out.below hb
      clear Il
      have Il : Hid (IntsAt v6 lo l) := Iln.out
      clear Iln
      have Ipn : Hid (IntsAt v6 pa A) := Ip.out.below hb
      clear Ip
      have Ip : Hid (IntsAt v6 pa A) := Ipn.out
      clear Ipn
      have Iqn : Hid (IntsAt v6 qa l) := Iq.out.below hb
      clear Iq
      have Iq : Hid (IntsAt v6 qa l) := Iqn.out
      clear Iqn
      have Irn : Hid (IntsAt v6 ra B) := Ir.out.below hb
      clear Ir
      have Ir : Hid (IntsAt v6 ra B) := Irn.out
      clear Irn
      have Isn : Hid (IntsAt v6 sa l) := Is.out.below hb
      clear Is
      have Is : Hid (IntsAt v6 sa l) := Isn.out
      clear Isn
      clear hb
      go_wp2_with fail
      refine (KW.out v6 HB0.out Il.out).mono ?_
      rintro e v7 ⟨rfl, hb⟩
      have HBn : Hid (Below w.heap.size w v7) := HB0.out.trans (hb.mono HB0.out.size)
      clear HB0
      have HB0 : Hid (Below w.heap.size w v7) := HBn.out
      clear HBn
      have Icoefsn : Hid (IntsAt v7 coefso coefs) := Icoefs.out.below hb
      clear Icoefs
      have Icoefs : Hid (IntsAt v7 coefso coefs) := Icoefsn.out
      clear Icoefsn
      have Iln : Hid (IntsAt v7 lo l) := Il.out.below hb
      clear Il
      have Il : Hid (IntsAt v7 lo l) := Iln.out
      clear Iln
      have Ipn : Hid (IntsAt v7 pa A) := Ip.out.below hb
      clear Ip
      have Ip : Hid (IntsAt v7 pa A) := Ipn.out
      clear Ipn
      have Iqn : Hid (IntsAt v7 qa l) := Iq.out.below hb
      clear Iq
      have Iq : Hid (IntsAt v7 qa l) := Iqn.out
      clear Iqn
      have Irn : Hid (IntsAt v7 ra B) := Ir.out.below hb
      clear Ir
      have Ir : Hid (IntsAt v7 ra B) := Irn.out
      clear Irn
      have Isn : Hid (IntsAt v7 sa l) := Is.out.below hb
      clear Is
      have Is : Hid (IntsAt v7 sa l) := Isn.out
      clear Isn
      clear hb
      go_wp2_with fail
      refine (KS.out v7 Il.out).mono ?_
      intro e v8 hret
      obtain ⟨xa, xc, rfl, h1, hb⟩ := ret2_yes hret
      clear hret
      have HBn : Hid (Below w.heap.size w v8) := HB0.out.trans (hb.mono HB0.out.size)
      clear HB0
      have HB0 : Hid (Below w.heap.size w v8) := HBn.out
      clear HBn
      have Icoefsn : Hid (IntsAt v8 coefso coefs) := Icoefs.out.below hb
      clear Icoefs
      have Icoefs : Hid (IntsAt v8 coefso coefs) := Icoefsn.out
      clear Icoefsn
      have Iln : Hid (IntsAt v8 lo l) := Il.out.below hb
      clear Il
      have Il : Hid (IntsAt v8 lo l) := Iln.out
      clear Iln
      have Ipn : Hid (IntsAt v8 pa A) := Ip.out.below hb
      clear Ip
      have Ip : Hid (IntsAt v8 pa A) := Ipn.out
      clear Ipn
      have Iqn : Hid (IntsAt v8 qa l) := Iq.out.below hb
      clear Iq
      have Iq : Hid (IntsAt v8 qa l) := Iqn.out
      clear Iqn
      have Irn : Hid (IntsAt v8 ra B) := Ir.out.below hb
      clear Ir
      have Ir : Hid (IntsAt v8 ra B) := Irn.out
      clear Irn
      have Isn : Hid (IntsAt v8 sa l) := Is.out.below hb
      clear Is
      have Is : Hid (IntsAt v8 sa l) := Isn.out
      clear Isn
      clear hb
      have Ix : Hid (IntsAt v8 xa S) := h1
      clear h1
      go_wp2_with fail
      refine (KT.out v8 xa xc Ix.out).mono ?_
      intro e v9 hret
      obtain ⟨ya, yc, rfl, h1, hb⟩ := ret2_yes hret
      clear hret
      have HBn : Hid (Below w.heap.size w v9) := HB0.out.trans (hb.mono HB0.out.size)
      clear HB0
      have HB0 : Hid (Below w.heap.size w v9) := HBn.out
      clear HBn
      have Icoefsn : Hid (IntsAt v9 coefso coefs) := Icoefs.out.below hb
      clear Icoefs
      have Icoefs : Hid (IntsAt v9 coefso coefs) := Icoefsn.out
      clear Icoefsn
      have Iln : Hid (IntsAt v9 lo l) := Il.out.below hb
      clear Il
      have Il : Hid (IntsAt v9 lo l) := Iln.out
      clear Iln
      have Ipn : Hid (IntsAt v9 pa A) := Ip.out.below hb
      clear Ip
      have Ip : Hid (IntsAt v9 pa A) := Ipn.out
      clear Ipn
      have Iqn : Hid (IntsAt v9 qa l) := Iq.out.below hb
      clear Iq
      have Iq : Hid (IntsAt v9 qa l) := Iqn.out
      clear Iqn
      have Irn : Hid (IntsAt v9 ra B) := Ir.out.below hb
      clear Ir
      have Ir : Hid (IntsAt v9 ra B) := Irn.out
      clear Irn
      have Isn : Hid (IntsAt v9 sa l) := Is.out.below hb
      clear Is
      have Is : Hid (IntsAt v9 sa l) := Isn.out
      clear Isn
      have Ixn : Hid (IntsAt v9 xa S) := Ix.out.below hb
      clear Ix
      have Ix : Hid (IntsAt v9 xa S) := Ixn.out
      clear Ixn
      clear hb
      have Iy : Hid (IntsAt v9 ya l) := h1
      clear h1
      go_wp2_with fail
      refine (same_same l _ _ yc lc v9 Iy.out Il.out).mono ?_
      rintro e v10 ⟨rfl, nn, hq⟩
      have hb : Below v9.heap.size v9 v10 := by rw [hq]; exact below_drewN _ _
      clear hq
      have HBn : Hid (Below w.heap.size w v10) := HB0.out.trans (hb.mono HB0.out.size)
      clear HB0
      have HB0 : Hid (Below w.heap.size w v10) := HBn.out
      clear HBn
      have Icoefsn : Hid (IntsAt v10 coefso coefs) := Icoefs.out.below hb
      clear Icoefs
      have Icoefs : Hid (IntsAt v10 coefso coefs) := Icoefsn.out
      clear Icoefsn
      have Iln : Hid (IntsAt v10 lo l) := Il.out.below hb
      clear Il
      have Il : Hid (IntsAt v10 lo l) := Iln.out
      clear Iln
      have Ipn : Hid (IntsAt v10 pa A) := Ip.out.below hb
      clear Ip
      have Ip : Hid (IntsAt v10 pa A) := Ipn.out
      clear Ipn
      have Iqn : Hid (IntsAt v10 qa l) := Iq.out.below hb
      clear Iq
      have Iq : Hid (IntsAt v10 qa l) := Iqn.out
      clear Iqn
      have Irn : Hid (IntsAt v10 ra B) := Ir.out.below hb
      clear Ir
      have Ir : Hid (IntsAt v10 ra B) := Irn.out
      clear Irn
      have Isn : Hid (IntsAt v10 sa l) := Is.out.below hb
      clear Is
      have Is : Hid (IntsAt v10 sa l) := Isn.out
      clear Isn
      have Ixn : Hid (IntsAt v10 xa S) := Ix.out.below hb
      clear Ix
      have Ix : Hid (IntsAt v10 xa S) := Ixn.out
      clear Ixn
      have Iyn : Hid (IntsAt v10 ya l) := Iy.out.below hb
      clear Iy
      have Iy : Hid (IntsAt v10 ya l) := Iyn.out
      clear Iyn
      clear hb
      go_wp2_with fail
      refine (KAw.out v10 HB0.out).mono ?_
      rintro e vz ⟨rfl, hb⟩
      have HBn : Hid (Below w.heap.size w vz) := HB0.out.trans (hb.mono HB0.out.size)
      clear HB0
      have HB0 : Hid (Below w.heap.size w vz) := HBn.out
      clear HBn
      have Icoefsn : Hid (IntsAt vz coefso coefs) := Icoefs.out.below hb
      clear Icoefs
      have Icoefs : Hid (IntsAt vz coefso coefs) := Icoefsn.out
      clear Icoefsn
      have Iln : Hid (IntsAt vz lo l) := Il.out.below hb
      clear Il
      have Il : Hid (IntsAt vz lo l) := Iln.out
      clear Iln
      have Ipn : Hid (IntsAt vz pa A) := Ip.out.below hb
      clear Ip
      have Ip : Hid (IntsAt vz pa A) := Ipn.out
      clear Ipn
      have Iqn : Hid (IntsAt vz qa l) := Iq.out.below hb
      clear Iq
      have Iq : Hid (IntsAt vz qa l) := Iqn.out
      clear Iqn
      have Irn : Hid (IntsAt vz ra B) := Ir.out.below hb
      clear Ir
      have Ir : Hid (IntsAt vz ra B) := Irn.out
      clear Irn
      have Isn : Hid (IntsAt vz sa l) := Is.out.below hb
      clear Is
      have Is : Hid (IntsAt vz sa l) := Isn.out
      clear Isn
      have Ixn : Hid (IntsAt vz xa S) := Ix.out.below hb
      clear Ix
      have Ix : Hid (IntsAt vz xa S) := Ixn.out
      clear Ixn
      have Iyn : Hid (IntsAt vz ya l) := Iy.out.below hb
      clear Iy
      have Iy : Hid (IntsAt vz ya l) := Iyn.out
      clear Iyn
      clear hb
      go_wp2_with fail
      go_ret
      exact ⟨rfl, HB0.out⟩



theorem door_met (os : Os) (args : Array Value) : laidMetH Tryd.prog Rows.predictBackRow.laid ((World.doorLaid Tryd.prog 400 os).forCall (fun _ _ => 0) ⟨#[], args, []⟩).memory :=
  laidMetH_of_parts3 (fuel := 8) (laidMet_of_run' 8 (by kernel_rfl) (by kernel_rfl)) (by kernel_rfl) (by kernel_rfl)

set_option maxRecDepth 100000 in
theorem lifted (os : Os) (started : os.Started) (H : Type) (enc : TypeId × Value → H) :
    ReturnsInHanded {} Tryd.checked os 7 .any (fun w args => (Rows.predictBackSpec.pre enc Tryd.prog Tryd.f7 [] false w args ∧ laidMetH Tryd.prog Rows.predictBackRow.laid w) ∧ sizedMet enc Tryd.prog Tryd.f7 (OpenSpec.ofChange Rows.predictBackSpec) false w args)
      (Rows.predictBackSpec.post enc Tryd.prog Tryd.f7 false true false false) := by
  refine returnsInHanded_of_change_and (C := Tryd.checked) (X := fun w _ => laidMetH Tryd.prog Rows.predictBackRow.laid w) (fun _ _ _ hh h => h.of_heap hh) own started (by kernel_rfl) Tryd.func7
    (ChangeSpec.witness_shaped (enc := enc) (C := Tryd.checked) (os := os) (X := fun w _ => laidMetH Tryd.prog Rows.predictBackRow.laid w) false (World.doorLaid Tryd.prog 400 os) #[.agg #[.int .i64 0, .int .i64 0], .slice none 0 0, .slice none 0 0] 8 rfl (World.shaped_of_RefB (by kernel_rfl) (by kernel_rfl)) (by kernel_rfl) (by kernel_rfl) (by kernel_rfl) (door_met os _)) ?_
  intro W base args ds gs before hval0 hW _ hsz0 hL _
  have hval : ∀ (j : Nat) t v, Tryd.f7.params[j]? = some t → args[j]? = some v → Value.okWide Tryd.prog W .any base t v := hval0
  have hsz : (DataW.weightsEach Tryd.prog (Tryd.f7.params.toList ++ Rows.predictBackSpec.plain.varTypes Tryd.prog) (ds ++ gs)).all (· ≤ reachBytes) = true := hsz0
  have hW' := hW
  obtain ⟨p, q, hA0, hV, rfl, hfz, hnd⟩ := hW
  have hA : DataW.TrodAll enc Tryd.prog W 0 (fun _ => true) true Tryd.f7.params.toList args.toList ds p := hA0
  rw [Tryd.params7] at hA hval hsz
  obtain ⟨v0, vs0, d0, ds0, p0, q0, hargs, rfl, rfl, h0, r0⟩ := trodAll_cons hA
  obtain ⟨v1, vs1, d1, ds1, p1, q1, rfl, rfl, rfl, h1, r1⟩ := trodAll_cons r0
  obtain ⟨v2, vs2, d2, ds2, p2, q2, rfl, rfl, rfl, h2, r2⟩ := trodAll_cons r1
  obtain ⟨rfl, rfl, rfl⟩ := trodAll_nil r2
  obtain rfl : args = #[v0, v1, v2] := by cases args; simp_all
  obtain ⟨rfl, rfl⟩ := trodVars_none hV
  have hall := List.all_eq_true.1 hsz
  have k0 := h0
  have lt0 : ∀ x ∈ p0, x.block < W.heap.size := by obtain ⟨m, hm⟩ := k0; exact DataW.trod_lt m _ _ _ hm
  obtain ⟨xa0, xb0, rfl, ⟨ta0, tb0⟩, ⟨tc0, td0⟩⟩ := open_two (hval 0 47 v0 rfl rfl) h0
  have hw1 : ∀ n ∈ d1.weights Tryd.prog 22, n ≤ reachBytes := fun n hn => by
    have := hall n (List.mem_append.2 (.inr (List.mem_append.2 (.inl hn))))
    exact of_decide_eq_true this
  have k1 := h1
  have lt1 : ∀ x ∈ p1, x.block < W.heap.size := by obtain ⟨m, hm⟩ := k1; exact DataW.trod_lt m _ _ _ hm
  obtain ⟨o1, c1, x1, rfl, hr1, hc1, hn1, hm1⟩ := open_list (hval 1 22 v1 rfl rfl) h1 hw1
  have hw2 : ∀ n ∈ d2.weights Tryd.prog 22, n ≤ reachBytes := fun n hn => by
    have := hall n (List.mem_append.2 (.inr (List.mem_append.2 (.inr (List.mem_append.2 (.inl hn))))))
    exact of_decide_eq_true this
  have k2 := h2
  have lt2 : ∀ x ∈ p2, x.block < W.heap.size := by obtain ⟨m, hm⟩ := k2; exact DataW.trod_lt m _ _ _ hm
  obtain ⟨o2, c2, x2, rfl, hr2, hc2, hn2, hm2⟩ := open_list (hval 2 22 v2 rfl rfl) h2 hw2
  have hT : Tz W := tz_of_laid hL
  clear hA0 hval0
  refine (walk xa0 xb0 ta0 tb0 tc0 td0 x1 o1 c1 hc1 hn1 hm1 x2 o2 c2 hc2 hn2 hm2 W hr1 hr2 hT).mono fun e W' ⟨he, bel⟩ => ?_
  subst he
  exact ⟨_, rfl, _, _, _, [], _, [], hW', trodAll_mk1 (shut_bool Tryd.underlying4 _), (trodAll_cons_mk (Below.trod laidOut (by kernel_rfl) (of_decide_eq_true (by kernel_rfl)) k0 bel lt0) (trodAll_cons_mk (Below.trod laidOut (by kernel_rfl) (of_decide_eq_true (by kernel_rfl)) k1 bel lt1) (trodAll_cons_mk (Below.trod laidOut (by kernel_rfl) (of_decide_eq_true (by kernel_rfl)) k2 bel lt2) trodAll_mk0))), rfl, bel.frame _, fun h => by cases h⟩

theorem said : Rows.PredictBackSaid :=
  OpenClaim.holds_of_wide 7 Tryd.f7 rfl rfl rfl rfl rfl rfl rfl ⟨rfl, rfl, rfl, rfl, rfl⟩ rfl rfl rfl rfl rfl (by kernel_rfl) Tryd.func7 (by kernel_rfl)
    (of_decide_eq_true (by kernel_rfl)) (by unfold Func.isWrapper; first | (rw [if_pos (by decide +kernel)]; kernel_rfl) | (rw [if_neg (by decide +kernel)]; exact ⟨rfl, rfl⟩))
    (fun os started H enc _ => lifted os started H enc)

/-- No parameter wants a stand-in; the program's own looks are off. -/
theorem plain (f : FuncId) (fn : Func) (hf : Tryd.pinned.checked.prog.funcNamed Rows.predictBackRow.func = some f) (hfn : Tryd.pinned.checked.prog.funcs[f]? = some fn) :
    false = Tryd.pinned.checked.prog.looks [] ∧ ∀ (j : Nat) t, fn.params[j]? = some t → Tryd.pinned.checked.prog.wantsStandIn t = false := by
  obtain rfl : f = 7 := Option.some.inj ((show Tryd.prog.funcNamed Rows.predictBackRow.func = some 7 by kernel_rfl).symm.trans hf) |>.symm
  obtain rfl : fn = Tryd.f7 := (Option.some.inj (Tryd.func7.symm.trans hfn)).symm
  refine ⟨by kernel_rfl, fun j t ht => ?_⟩
  rw [Tryd.params7] at ht
  have hm := Array.mem_of_getElem? ht
  simp at hm
  rcases hm with rfl | rfl
  · exact (show Tryd.prog.wantsStandIn 47 = false by kernel_rfl)
  · exact (show Tryd.prog.wantsStandIn 22 = false by kernel_rfl)

theorem card : Rows.PredictBackCardSaid :=
  Claim7.holds_tied_plain_at .later [] _ _ _ _ said (fun _ h => by cases h) (by kernel_rfl) (fun _ h => by cases h) predictBack_row_tie rfl ⟨rfl, rfl⟩ (by kernel_rfl) rfl plain (by kernel_rfl)

end Go.Proofs.YtpfkaddammfkkaaDoor.predictBack
namespace Go.Proofs.YtpfkaddammfkkaaDoor
theorem predictBack_card : Rows.PredictBackCardSaid := predictBack.card
#print axioms predictBack_card
end Go.Proofs.YtpfkaddammfkkaaDoor
