/- Own text: the document's Forward and Inverse of lists. -/
import Derived.Test.YtecdcmjeiogenaaR17new
import Derived.Test.YtecdcmjeiogenaaR17fwd
import Derived.Test.YtecdcmjeiogenaaR17inv
namespace Go.Proofs.Ytecdcmjeiogenaa
open Go.RowKit
set_option linter.unusedSimpArgs false
set_option linter.unusedVariables false

theorem own_same {w w' : World} {B z : Nat} {e : TypeId} {v : Value} {n : Nat} {xs : List Value} (h : w.ownsRow B e z v n xs) (hb : ∀ b, v.ownBlock = some b → w'.heap[b]? = w.heap[b]?) : w'.ownsRow B e z v n xs := by
  rcases h.2 with h0 | ⟨g, cap, cur, hv, hB, hg, r⟩
  · exact ⟨h.1, .inl h0⟩
  · exact ⟨h.1, .inr ⟨g, cap, cur, hv, hB, (hb g (by rw [hv]; rfl)).trans hg, r⟩⟩
/-- A chain, and a list that is made beside it. -/
structure OutC (w0 w : World) (fp : Nat → Prop) (v : Value) (xs : List Int) (pc : Nat) (ao : Option Addr) (cap : Nat) (Q : List (Nat × Nat)) (c : List Stp) : Prop where
  own : w.ownsRow w0.heap.size 3 1 v xs.length (intsC xs)
  chn : ChnAt w fp pc ao cap Q c
  dj : ∀ b, v.ownBlock = some b → ¬ fp b
  lo : ∀ k, fp k → w0.heap.size ≤ k ∧ k < w.heap.size
  bl : Below w0.heap.size w0 w
section
variable {w0 w w' : World} {fp : Nat → Prop} {v v' : Value} {xs : List Int} {pc : Nat} {ao : Option Addr} {cap : Nat} {Q : List (Nat × Nat)} {c c' : List Stp}
theorem OutC.call (h : OutC w0 w fp v xs pc ao cap Q c) (hc : ChnAt w' (grew fp w w') pc ao cap Q c') (hs : Stays fp w w') : OutC w0 w' (grew fp w w') v xs pc ao cap Q c' := by
  have hz := hs.size
  have hz0 := h.bl.size
  refine ⟨own_same h.own fun b hb => hs.block b (h.own.lt b hb).2 (h.dj b hb), hc, fun b hb q => ?_, fun k q => ?_, ?_⟩
  · have := (h.own.lt b hb).2
    rcases q with q | q
    · exact h.dj b hb q
    · omega
  · rcases q with q | q
    · have := h.lo k q; omega
    · omega
  · exact h.bl.trans (hs.below hz0 (fun i hi q => by have := h.lo i q; omega))
theorem OutC.low (h : OutC w0 w fp v xs pc ao cap Q c) (hb : Below w.heap.size w w') : OutC w0 w' fp v xs pc ao cap Q c :=
  ⟨owns_below h.own hb, h.chn.low hb (fun k q => q), h.dj, fun k q => ⟨(h.lo k q).1, Nat.lt_of_lt_of_le (h.lo k q).2 hb.size⟩, below_on h.bl h.bl.size hb⟩
theorem OutC.own1 {n : Nat} (h : OutC w0 w fp v xs pc ao cap Q c) (hn : xs.length = n) (hb : Below w.heap.size w w') : w'.ownsRow w0.heap.size 3 1 v n (intsC xs) := by
  have := owns_below h.own hb
  rwa [hn] at this
theorem OutC.push (h : OutC w0 w fp v xs pc ao cap Q c) {n : Nat} (hn : xs.length = n) {y : Int} {o : Obj} (ho : w'.ownsRow w0.heap.size 3 1 v' (n + 1) (intsC xs ++ [.int .i64 y])) (hg : (w.alloc o).grownBy w' v.ownBlock) (hv : v'.ownBlock = v.ownBlock ∨ v'.ownBlock = some (w.alloc o).heap.size) : OutC w0 w' fp v' (xs ++ [y]) pc ao cap Q c := by
  subst hn
  have hz := hg.size
  have hz0 := h.bl.size
  have hsz : (w.alloc o).heap.size = w.heap.size + 1 := by simp
  have hb := below_new w o
  have hkeep : ∀ k, k < w.heap.size → fp k → w'.heap[k]? = w.heap[k]? := fun k hk q => (hg.block k (by omega) (fun e => h.dj k e.symm q)).trans (hb.block k hk)
  refine ⟨by rw [List.length_append, intsC_append]; exact ho, h.chn.keep (by omega) hkeep (fun k q => q), fun b e q => ?_, fun k q => ⟨(h.lo k q).1, by have := (h.lo k q).2; omega⟩, ?_⟩
  · rcases hv with e2 | e2
    · rw [e2] at e; exact h.dj b e q
    · rw [e2] at e; injection e with e; have := (h.lo b q).2; omega
  · exact grown_to hg (below_on h.bl hz0 hb) (by omega) (fun k e => (h.own.lt k e).1)
end
theorem in32_dec (l : List Int) (i : Nat) (y : Int) (h : l[i]? = some y) (hy : ¬ In32 y) : ¬ ∀ x ∈ l, In32 x := fun q => hy (q y (List.mem_of_getElem? h))
attribute [local go_sem] Oper.semAt_some
set_option maxRecDepth 20000 in
set_option maxHeartbeats 3200000 in
theorem xall (back : Bool) (level : Int) (l : List Int) (lo : Option Addr) (lc : Nat) (w : World) (hl : IntsAt w lo l) : Calls Try.prog 25 #[.int .i64 level, .slice lo l.length lc, .bool back] w (Ret2 (allC back level l) w) := by
  have hlen := hl.len
  have HL := hid hl
  clear hl
  obtain ⟨ln, hln⟩ : ∃ ln, ln = l.length := ⟨_, rfl⟩
  have HLN := hid hln
  rw [← hln] at hlen ⊢
  clear hln
  by_cases hlv : level < 0 ∨ 2 < level
  · have HR : Hid (allC back level l = none) := by
      show _ = _
      unfold allC newC
      rw [if_neg (by omega), if_neg (by omega), if_neg (by omega)]
    go_enter Try.func25, Try.ntmps25
    go_wp2_with fail
    refine (xnew_no level hlv _).mono ?_
    rintro e w2 ⟨rfl, hb⟩
    have HB := hid hb
    clear hb
    go_wp2_with fail
    refine bodyPost_ret (results_tmp2 rfl _ _ _) rfl ?_
    unfold Ret2
    rw [HR.out]
    exact ⟨none, 0, rfl, IntsAt.nil _, HB.out⟩
  · obtain ⟨m, rfl⟩ : ∃ m : Nat, level = (m : Int) := ⟨level.toNat, by omega⟩
    have hm : m ≤ 2 := by omega
    clear hlv
    obtain ⟨c, hc⟩ : ∃ c, c = (tapsN m).map newS := ⟨_, rfl⟩
    have KN := hid (xnew m hm w)
    rw [← hc] at KN
    have HNC : Hid (newC (m : Int) = some c) := by show _ = _; rw [newC_taps m hm, hc]
    clear hc
    go_enter Try.func25, Try.ntmps25
    go_wp2_with fail
    refine KN.out.mono ?_
    rintro e w2 ⟨pc, ac, ca, Q, rfl, hch, hb⟩
    have HO : Hid (OutC w w2 (fun k => w.heap.size ≤ k ∧ k < w2.heap.size) noS [] pc ac ca Q c) := ⟨World.ownsRow_nil _ _ _ _, hch, fun b e => (by cases e), fun k q => q, hb⟩
    clear hch hb KN
    go_wp2_with fail
    go_loopw [9, 10] (fun s9 s10 wr => ∃ (i : Nat) (v : Value) (fp : Nat → Prop), i ≤ ln ∧ s9 = v ∧ s10 = .int .i64 (i : Int) ∧ (∀ x ∈ l.take i, In32 x) ∧ OutC w wr fp v (runC back c (l.take i)) pc ac ca Q (aftC back c (l.take i))) (fun _ s10 _ => ln - (intOf s10).toNat)
    case atStart => exact ⟨0, noS, _, Nat.zero_le _, rfl, rfl, by simp, HO.out⟩
    case round =>
      clear HO
      obtain ⟨i, v, fp, hi, rfl, rfl, hal, hq⟩ := hrel
      obtain ⟨ao, cap, ev⟩ := owns_sl hq.own
      rw [runC_len, List.length_take, ← HLN.out, Nat.min_eq_left hi] at ev
      subst ev
      have HQ := hid hq
      have HAL := hid hal
      clear hq hal
      by_cases hlt : i < ln
      · have hltl : i < l.length := by rw [← HLN.out]; exact hlt
        obtain ⟨lb, off, rfl, q1⟩ := HL.out.at i hltl
        have r1 := q1 wr HQ.out.bl
        have hgy : l[i]? = some (l.getD i 0) := by rw [List.getD_eq_getElem?_getD, List.getElem?_eq_getElem hltl]; rfl
        have HTK : Hid (l.take (i + 1) = l.take i ++ [l.getD i 0]) := take_snoc l i hltl
        clear q1 hltl
        obtain ⟨y, hy⟩ : ∃ y, y = l.getD i 0 := ⟨_, rfl⟩
        rw [← hy] at r1 hgy HTK
        have HGY := hid hgy
        clear hy hgy
        by_cases h32 : In32 y
        · have hw : w32 y = y := w32_id h32
          have HAL2 : Hid (∀ x ∈ l.take (i + 1), In32 x) := by
            intro x hx
            rw [HTK.out] at hx
            rcases List.mem_append.1 hx with hx | hx
            · exact HAL.out x hx
            · rw [List.mem_singleton] at hx; rw [hx]; exact h32
          obtain ⟨iI, hI0, hI1, hI2, hI3⟩ := int_info
          have HII : Hid (Try.prog.info? 3 = some iI ∧ iI.zero = some (.int .i64 0) ∧ iI.size = 1 ∧ iI.bytes = 8) := ⟨hI0, hI1, hI2, hI3⟩
          clear hI0 hI1 hI2 hI3 h32
          have kw : ∀ wx, Calls Try.prog 30 #[.int .i64 y] wx fun e w' => e = .returned (.int .i64 y) ∧ w' = wx := fun wx => by have := xwrap y wx; rw [hw] at this; exact this
          clear hw
          go_wp2_with fail
          go_quiet ((go_at_call 30; exact Calls.quiet_of_same (kw _)))
          have HQ2 := hid (HQ.out.low (below_drewN wr nq))
          have r1 := low_cell (below_drewN wr nq) r1
          generalize wr.drewN nq = w3 at *
          have HIL : Hid (∀ b, (runC b c (l.take i)).length = i) := fun b => by rw [runC_len, List.length_take, ← HLN.out]; omega
          clear HQ kw
          cases back with
          | true =>
            go_wp2_with fail
            refine (xinv HQ2.out.chn _).mono ?_
            rintro e w4 ⟨rfl, hc4, hs4⟩
            have H4 : Hid (OutC w w4 (grew fp w3 w4) (.slice ao i cap) (runC true c (l.take i)) pc ac ca Q (goC true (aftC true c (l.take i)) y).2) := HQ2.out.call hc4 hs4
            have HXS : Hid (runC true c (l.take (i + 1)) = runC true c (l.take i) ++ [(goC true (aftC true c (l.take i)) y).1] ∧ aftC true c (l.take (i + 1)) = (goC true (aftC true c (l.take i)) y).2) := by
              rw [HTK.out, runC_snoc, aftC_snoc]; exact ⟨rfl, rfl⟩
            generalize (goC true (aftC true c (l.take i)) y).1 = y2 at *
            clear hc4 hs4 HQ2
            go_wp2_with (at_builtin; go_loud (refine wpList_append_row _ rfl (.tmp 32) (.tmp 39) 22 rfl w.heap.size 3 iI (.int .i64 0) 1 8 undI3 HII.out.1 HII.out.2.1 HII.out.2.2.1 HII.out.2.2.2 rfl (by decide) (.slice ao i cap) i _ rfl (H4.out.own1 (HIL.out _) (below_new _ _)) ⟨w4.heap.size, 0, none⟩ 1 1 [.int .i64 y2] rfl rfl (one_new w4 _ _) (by simp [Value.oneCell']) (by simp only [maxLen]; omega) (by omega) (by have := H4.out.bl.size; simp; omega) ?_); intro v7 w7 ho7 hg7 hx7)
            have H7 : Hid (OutC w w7 (grew fp w3 w4) v7 (runC true c (l.take (i + 1))) pc ac ca Q (aftC true c (l.take (i + 1)))) := by
              rw [HXS.out.1, HXS.out.2]
              exact H4.out.push (HIL.out _) ho7.out hg7.out hx7.out
            clear ho7 hg7 hx7 H4 HXS
            go_roundw
            case rel => exact ⟨i + 1, v7, _, by omega, by rfl, by go_num, HAL2.out, H7.out⟩
            case measure => simp [intOf]; omega
          | false =>
            go_wp2_with fail
            refine (xfwd HQ2.out.chn _).mono ?_
            rintro e w4 ⟨rfl, hc4, hs4⟩
            have H4 : Hid (OutC w w4 (grew fp w3 w4) (.slice ao i cap) (runC false c (l.take i)) pc ac ca Q (goC false (aftC false c (l.take i)) y).2) := HQ2.out.call hc4 hs4
            have HXS : Hid (runC false c (l.take (i + 1)) = runC false c (l.take i) ++ [(goC false (aftC false c (l.take i)) y).1] ∧ aftC false c (l.take (i + 1)) = (goC false (aftC false c (l.take i)) y).2) := by
              rw [HTK.out, runC_snoc, aftC_snoc]; exact ⟨rfl, rfl⟩
            generalize (goC false (aftC false c (l.take i)) y).1 = y2 at *
            clear hc4 hs4 HQ2
            go_wp2_with (at_builtin; go_loud (refine wpList_append_row _ rfl (.tmp 41) (.tmp 48) 22 rfl w.heap.size 3 iI (.int .i64 0) 1 8 undI3 HII.out.1 HII.out.2.1 HII.out.2.2.1 HII.out.2.2.2 rfl (by decide) (.slice ao i cap) i _ rfl (H4.out.own1 (HIL.out _) (below_new _ _)) ⟨w4.heap.size, 0, none⟩ 1 1 [.int .i64 y2] rfl rfl (one_new w4 _ _) (by simp [Value.oneCell']) (by simp only [maxLen]; omega) (by omega) (by have := H4.out.bl.size; simp; omega) ?_); intro v7 w7 ho7 hg7 hx7)
            have H7 : Hid (OutC w w7 (grew fp w3 w4) v7 (runC false c (l.take (i + 1))) pc ac ca Q (aftC false c (l.take (i + 1)))) := by
              rw [HXS.out.1, HXS.out.2]
              exact H4.out.push (HIL.out _) ho7.out hg7.out hx7.out
            clear ho7 hg7 hx7 H4 HXS
            go_roundw
            case rel => exact ⟨i + 1, v7, _, by omega, by rfl, by go_num, HAL2.out, H7.out⟩
            case measure => simp [intOf]; omega
        · have HNE : Hid (allC back (m : Int) l = none) := by
            show _ = _
            unfold allC
            rw [HNC.out]
            exact if_neg (in32_dec l i y HGY.out h32)
          have hwn : (y == w32 y) = false := beq_eq_false_iff_ne.2 (fun e => h32 ((w32_iff y).1 e.symm))
          have hwn2 : (y != w32 y) = true := by unfold bne; rw [hwn]; rfl
          clear hwn h32
          have kw : ∀ wx, Calls Try.prog 30 #[.int .i64 y] wx fun e w' => e = .returned (.int .i64 (w32 y)) ∧ w' = wx := fun wx => xwrap y wx
          generalize w32 y = y3 at *
          go_wp2_with fail
          go_quiet ((go_at_call 30; exact Calls.quiet_of_same (kw _)))
          go_wp2_with fail
          refine bodyPost_ret (results_tmp2 rfl _ _ _) rfl ?_
          unfold Ret2
          rw [HNE.out]
          exact ⟨none, 0, rfl, IntsAt.nil _, below_on HQ.out.bl HQ.out.bl.size (below_drewN _ _)⟩
      · have hE : l.take i = l := List.take_of_length_le (by rw [← HLN.out]; omega)
        have hq := HQ.out
        have hal := HAL.out
        rw [hE] at hq hal
        have HR : Hid (allC back (m : Int) l = some (runC back c l)) := by
          show _ = _
          unfold allC
          rw [HNC.out]
          exact if_pos hal
        have hrl : (runC back c l).length = i := by rw [runC_len, ← HLN.out]; omega
        have HF : Hid (IntsAt wr ao (runC back c l) ∧ Below w.heap.size w wr ∧ (runC back c l).length = i) := by
          have h1 := hq.own
          rw [hrl] at h1
          refine ⟨own_ints (N := w.heap.size) (cap := cap) (by rw [hrl]; exact h1) (by omega) (fun n hn => ?_), hq.bl, hrl⟩
          have := runC_in back c l n hn
          unfold In32 at this
          omega
        clear hE hq hal hrl HQ
        go_wp2_with fail
        refine bodyPost_ret (results_tmp2 rfl _ _ _) rfl ?_
        unfold Ret2
        rw [HR.out]
        refine ⟨ao, cap, ?_, HF.out.1, HF.out.2.1⟩
        show Ending.returned _ = _
        simp only [ansL, ansE, Option.getD_some, HF.out.2.2]
        rfl

end Go.Proofs.Ytecdcmjeiogenaa
