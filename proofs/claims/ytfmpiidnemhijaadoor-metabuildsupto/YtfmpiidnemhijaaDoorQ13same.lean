/- Own text: the walk of the document's Same. -/
import Derived.Test.YtfmpiidnemhijaaDoorQ13mem
import Derived.Laws.StructEq
namespace Go.Proofs.YtfmpiidnemhijaaDoor
open Go.RowKit
set_option linter.unusedSimpArgs false
set_option linter.unusedVariables false

def blkB (a b : Blk) : Bool := a.ty == b.ty && a.body.toList == b.body.toList
theorem str_eq {a b : ByteArray} (h : (a.toList == b.toList) = true) : a = b := by
  have h := eq_of_beq h
  rw [ByteArray.toList_eq, ByteArray.toList_eq] at h
  exact ByteArray.ext (Array.toList_inj.1 h)
theorem blkB_eq {a b : Blk} (h : blkB a b = true) : a = b := by
  unfold blkB at h
  obtain ⟨h1, h2⟩ := Bool.and_eq_true_iff.1 h
  have h1 := eq_of_beq h1
  have h2 := str_eq h2
  cases a; cases b
  simp only [Blk.mk.injEq]
  exact ⟨h1, h2⟩
theorem blkB_self (a : Blk) : blkB a a = true := by unfold blkB; simp
theorem und_blk : Tryd.prog.underlying 36 = some (.struct (Tryd.prog.fieldsOf 36)) := by kernel_rfl
theorem eq_blk (c d : Blk) (w : World) : (Op.equalIn 10000 36 (.agg #[.int .i64 c.ty, .string c.body]) (.agg #[.int .i64 d.ty, .string d.body])).run Tryd.prog w = .ok (blkB c d) w := by
  unfold blkB
  rw [run_equalIn_struct w 9999 36 _ _ und_blk (by kernel_rfl)]
  cases h1 : c.ty == d.ty <;> cases h2 : c.body.toList == d.body.toList <;> go_simp
def sameL : List Blk → List Blk → Bool
  | [], [] => true
  | a :: s, b :: t => blkB a b && sameL s t
  | _, _ => false
theorem sameL_self : ∀ l, sameL l l = true
  | [] => rfl
  | a :: t => by
    show (blkB a a && sameL t t) = true
    rw [blkB_self, sameL_self t]
    rfl
theorem sameL_eq : ∀ (l m : List Blk), sameL l m = true → l = m
  | [], [], _ => rfl
  | [], _ :: _, h => by cases h
  | _ :: _, [], h => by cases h
  | a :: s, b :: t, h => by
    have h : (blkB a b && sameL s t) = true := h
    obtain ⟨h1, h2⟩ := Bool.and_eq_true_iff.1 h
    rw [blkB_eq h1, sameL_eq s t h2]
theorem neq_blk (c d : Blk) (w : World) : (binOp .neq 36 (.agg #[.int .i64 c.ty, .string c.body]) (.agg #[.int .i64 d.ty, .string d.body])).run Tryd.prog w = .ok (.bool (!blkB c d)) w := by
  rw [run_neq_struct, eq_blk]
  rfl
theorem sameL_step (l m : List Blk) (k : Nat) (c d : Blk) (hc : l[k]? = some c) (hd : m[k]? = some d) : sameL (l.drop k) (m.drop k) = (blkB c d && sameL (l.drop (k + 1)) (m.drop (k + 1))) := by
  obtain ⟨h1, e1⟩ := List.getElem?_eq_some_iff.1 hc
  obtain ⟨h2, e2⟩ := List.getElem?_eq_some_iff.1 hd
  rw [List.drop_eq_getElem_cons h1, List.drop_eq_getElem_cons h2, e1, e2]
  rfl
theorem sameL_len : ∀ (l m : List Blk), ¬ l.length = m.length → sameL l m = false
  | [], [], h => absurd rfl h
  | [], _ :: _, _ => rfl
  | _ :: _, [], _ => rfl
  | a :: s, b :: t, h => by
    show (blkB a b && sameL s t) = false
    rw [sameL_len s t (fun q => h (by simp [q])), Bool.and_false]
set_option maxRecDepth 20000 in
set_option maxHeartbeats 3200000 in
theorem same_any (l m : List Blk) (ao bo : Option Addr) (ac bc : Nat) (w : World) (hl : BlksAt w ao l) (hm : BlksAt w bo m) (hll : l.length ≤ 9000000000000000) :
    Calls Tryd.prog 17 #[.slice ao l.length ac, .slice bo m.length bc] w fun e w' => e = .returned (.bool (sameL l m)) ∧ ∃ n, w' = w.drewN n := by
  have HL : Hid (BlksAt w ao l) := hl
  have HM : Hid (BlksAt w bo m) := hm
  clear hl hm
  by_cases hlen : l.length = m.length
  · have HLEN : Hid (l.length = m.length) := hlen
    have hb : ((l.length : Int) != (m.length : Int)) = false := by simp [hlen]
    clear hlen
    go_enter Tryd.func17, Tryd.ntmps17
    go_wp2_with fail
    go_loopw [5] (fun t wr => ∃ k : Nat, k ≤ l.length ∧ t = .int .i64 (k : Int) ∧ sameL l m = sameL (l.drop k) (m.drop k) ∧ ∃ n, wr = w.drewN n) (fun t _ => l.length - (intOf t).toNat)
    case atStart => exact ⟨0, Nat.zero_le _, rfl, rfl, 0, rfl⟩
    case round =>
      obtain ⟨k, hk, rfl, hsm, n, hwn⟩ := hrel
      have HWN : Hid (wr = w.drewN n) := hwn
      have HSM : Hid (sameL l m = sameL (l.drop k) (m.drop k)) := hsm
      have hBn : Below w.heap.size w wr := by rw [hwn]; exact ⟨rfl, rfl, rfl, Nat.le_refl _, fun _ _ => rfl⟩
      clear hwn hsm
      by_cases hlt : k < l.length
      · have hml : k < m.length := by have := HLEN.out; omega
        obtain ⟨c, hc⟩ : ∃ c, l[k]? = some c := ⟨_, List.getElem?_eq_getElem hlt⟩
        obtain ⟨d, hd⟩ : ∃ d, m[k]? = some d := ⟨_, List.getElem?_eq_getElem hml⟩
        obtain ⟨b, off, rfl, hcl⟩ := HL.out.at k c hc
        obtain ⟨b2, off2, rfl, hdl⟩ := HM.out.at k d hd
        obtain ⟨x0, x1⟩ := hcl wr hBn
        obtain ⟨y0, y1⟩ := hdl wr hBn
        have HST : Hid (sameL l m = (blkB c d && sameL (l.drop (k + 1)) (m.drop (k + 1)))) := HSM.out.trans (sameL_step l m k c d hc hd)
        have heq := eq_blk c d
        have hneq := neq_blk c d
        clear hcl hdl hBn hc hd HSM
        cases hcb : blkB c d
        · have HE : Hid (sameL l m = false) := HST.out.trans (by rw [hcb]; rfl)
          rw [hcb] at heq hneq
          clear hcb HST
          go_wp2_with fail
          go_quiet (fail)
          go_wp2_with fail
          go_ret
          exact ⟨by rw [HE.out]; rfl, by rw [HWN.out, World.drewN_drewN]; exact ⟨_, rfl⟩⟩
        · have HE : Hid (sameL l m = sameL (l.drop (k + 1)) (m.drop (k + 1))) := HST.out.trans (by rw [hcb]; rfl)
          rw [hcb] at heq hneq
          clear hcb HST
          go_wp2_with fail
          go_quiet (fail)
          go_wp2_with fail
          go_roundw
          case rel => exact ⟨k + 1, by omega, by go_num, HE.out, by rw [HWN.out, World.drewN_drewN]; exact ⟨_, rfl⟩⟩
          case measure => simp [intOf]; omega
      · have HE : Hid (sameL l m = true) := HSM.out.trans (by
          rw [List.drop_eq_nil_of_le (by omega), List.drop_eq_nil_of_le (by have := HLEN.out; omega)]
          rfl)
        clear HSM hBn
        go_wp2_with fail
        go_ret
        exact ⟨by rw [HE.out]; rfl, n, HWN.out⟩
  · have HE : Hid (sameL l m = false) := sameL_len l m hlen
    have hb : ((l.length : Int) != (m.length : Int)) = true := by simp; omega
    go_enter Tryd.func17, Tryd.ntmps17
    go_wp2_with fail
    go_ret
    exact ⟨by rw [HE.out]; rfl, 0, rfl⟩
theorem und_sti : Tryd.prog.underlying 23 = some (.struct (Tryd.prog.fieldsOf 23)) := by kernel_rfl
theorem eq_sti_self (i : Sti) (w : World) : (Op.equalIn 10000 23 (stiV i) (stiV i)).run Tryd.prog w = .ok true w := by
  rw [run_equalIn_struct w 9999 23 _ _ und_sti (by kernel_rfl)]
  go_simp
theorem beq_sti_self (i : Sti) (w : World) : (binOp .eql 23 (stiV i) (stiV i)).run Tryd.prog w = .ok (.bool true) w := by
  rw [run_eql_struct, eq_sti_self]
  rfl

end Go.Proofs.YtfmpiidnemhijaaDoor
