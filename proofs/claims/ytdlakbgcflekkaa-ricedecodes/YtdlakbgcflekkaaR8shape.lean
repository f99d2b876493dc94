/- Own text: the walks of the document's shape and part. -/
import Derived.Test.YtdlakbgcflekkaaQ8check
namespace Go.Proofs.Ytdlakbgcflekkaa
open Go.RowKit
set_option linter.unusedSimpArgs false
set_option linter.unusedVariables false

def shapeB (c : Rc) (b r : Int) : Bool := decide ((0 ≤ c.m ∧ c.m ≤ 1) ∧ cutOk b r c.o)
set_option maxRecDepth 20000 in
set_option maxHeartbeats 3200000 in
theorem xshape_spec (c : Rc) (b r : Int) (pa : Option Addr) (pc : Nat) (ea : Option Addr) (ec : Nat) (w : World) :
    Calls Try.prog 40 #[riceV c pa pc ea ec, .int .i64 b, .int .i64 r] w fun en w' => en = .returned (.bool (shapeB c b r)) ∧ Below w.heap.size w w' := by
  have HB1 : Hid (Below w.heap.size w (w.alloc (.cells (riceC c pa pc ea ec) 24))) := (Below.refl _ _).alloc (Nat.le_refl _) _
  by_cases g0 : c.m < 0
  · have hd : shapeB c b r = false := decide_eq_false (fun h => by have := h.1; have := cut_head h.2; omega)
    rw [hd]
    clear hd
    go_enter Try.func40, Try.ntmps40
    go_wp2
    go_ret
    exact ⟨rfl, HB1.out⟩
  · skip
    by_cases g1 : 1 < c.m
    · have hd : shapeB c b r = false := decide_eq_false (fun h => by have := h.1; have := cut_head h.2; omega)
      rw [hd]
      clear hd
      go_enter Try.func40, Try.ntmps40
      go_wp2
      go_ret
      exact ⟨rfl, HB1.out⟩
    · skip
      by_cases g2 : c.o < 0
      · have hd : shapeB c b r = false := decide_eq_false (fun h => by have := h.1; have := cut_head h.2; omega)
        rw [hd]
        clear hd
        go_enter Try.func40, Try.ntmps40
        go_wp2
        go_ret
        exact ⟨rfl, HB1.out⟩
      · skip
        by_cases g3 : 15 < c.o
        · have hd : shapeB c b r = false := decide_eq_false (fun h => by have := h.1; have := cut_head h.2; omega)
          rw [hd]
          clear hd
          go_enter Try.func40, Try.ntmps40
          go_wp2
          go_ret
          exact ⟨rfl, HB1.out⟩
        · skip
          by_cases g4 : b < 1
          · have hd : shapeB c b r = false := decide_eq_false (fun h => by have := h.1; have := cut_head h.2; omega)
            rw [hd]
            clear hd
            go_enter Try.func40, Try.ntmps40
            go_wp2
            go_ret
            exact ⟨rfl, HB1.out⟩
          · skip
            by_cases g5 : 65535 < b
            · have hd : shapeB c b r = false := decide_eq_false (fun h => by have := h.1; have := cut_head h.2; omega)
              rw [hd]
              clear hd
              go_enter Try.func40, Try.ntmps40
              go_wp2
              go_ret
              exact ⟨rfl, HB1.out⟩
            · skip
              by_cases g6 : r < 0
              · have hd : shapeB c b r = false := decide_eq_false (fun h => by have := h.1; have := cut_head h.2; omega)
                rw [hd]
                clear hd
                go_enter Try.func40, Try.ntmps40
                go_wp2
                go_ret
                exact ⟨rfl, HB1.out⟩
              · skip
                by_cases g7 : 32 < r
                · have hd : shapeB c b r = false := decide_eq_false (fun h => by have := h.1; have := cut_head h.2; omega)
                  rw [hd]
                  clear hd
                  go_enter Try.func40, Try.ntmps40
                  go_wp2
                  go_ret
                  exact ⟨rfl, HB1.out⟩
                · skip
                  have HS : Hid (shapeB c b r = decide (b % 2 ^ c.o.toNat = 0 ∧ r ≤ b / 2 ^ c.o.toNat)) := by
                    show _ = _
                    unfold shapeB cutOk
                    by_cases h1 : b % 2 ^ c.o.toNat = 0 ∧ r ≤ b / 2 ^ c.o.toNat
                    · rw [decide_eq_true h1, decide_eq_true]
                      exact ⟨⟨by omega, by omega⟩, by omega, by omega, by omega, by omega, by omega, by omega, h1.1, h1.2⟩
                    · rw [decide_eq_false h1, decide_eq_false]
                      exact fun h => h1 ⟨h.2.2.2.2.2.2.2.1, h.2.2.2.2.2.2.2.2⟩
                  obtain ⟨o, ho⟩ : ∃ o' : Nat, c.o = o' := ⟨c.o.toNat, by omega⟩
                  have ho2 : c.o.toNat = o := by omega
                  have ho15 : o ≤ 15 := by omega
                  rw [ho2] at HS
                  obtain ⟨hp1, hp2⟩ := pow15i o ho15
                  have hbm : b.tmod (2 ^ o) = b % 2 ^ o := Int.tmod_eq_emod_of_nonneg (by omega)
                  have hbd : b.tdiv (2 ^ o) = b / 2 ^ o := Int.tdiv_eq_ediv_of_nonneg (by omega)
                  have hdl : b / 2 ^ o ≤ b := Int.ediv_le_self _ (by omega)
                  have hd0 : (0 : Int) ≤ b / 2 ^ o := Int.ediv_nonneg (by omega) (by omega)
                  have hm0 : (0 : Int) ≤ b % 2 ^ o := Int.emod_nonneg _ (by omega)
                  have hm1 : b % 2 ^ o < 2 ^ o := Int.emod_lt_of_pos _ (by omega)
                  generalize b / 2 ^ o = d at *
                  generalize b % 2 ^ o = m at *
                  generalize hH : (2 : Int) ^ o = p at *
                  clear ho2
                  obtain ⟨cm, co, cP, cE⟩ := c
                  dsimp only at *
                  subst ho
                  by_cases g8 : m = 0
                  · have hb1 : (m == 0) = true := by rw [g8]; rfl
                    by_cases g9 : r ≤ d
                    · have hb2 : decide (r ≤ d) = true := decide_eq_true g9
                      have hd : shapeB ⟨cm, o, cP, cE⟩ b r = true := by rw [HS.out, decide_eq_true ⟨g8, g9⟩]
                      rw [hd]
                      clear hd HS
                      go_enter Try.func40, Try.ntmps40
                      go_wp2
                      go_ret
                      exact ⟨rfl, HB1.out⟩
                    · have hb2 : decide (r ≤ d) = false := decide_eq_false g9
                      have hd : shapeB ⟨cm, o, cP, cE⟩ b r = false := by rw [HS.out, decide_eq_false (fun h => g9 h.2)]
                      rw [hd]
                      clear hd HS
                      go_enter Try.func40, Try.ntmps40
                      go_wp2
                      go_ret
                      exact ⟨rfl, HB1.out⟩
                  · have hb1 : (m == 0) = false := by rw [beq_eq_false_iff_ne]; exact g8
                    have hd : shapeB ⟨cm, o, cP, cE⟩ b r = false := by rw [HS.out, decide_eq_false (fun h => g8 h.1)]
                    rw [hd]
                    clear hd HS
                    go_enter Try.func40, Try.ntmps40
                    go_wp2
                    go_ret
                    exact ⟨rfl, HB1.out⟩
set_option maxRecDepth 20000 in
set_option maxHeartbeats 3200000 in
theorem xpart_spec (c : Rc) (b o r i : Nat) (h : Cut b o r) (ho : c.o = o) (hi : i < 2 ^ o) (pa : Option Addr) (pc : Nat) (ea : Option Addr) (ec : Nat) (w : World) :
    Calls Try.prog 36 #[riceV c pa pc ea ec, .int .i64 (b : Int), .int .i64 (r : Int), .int .i64 (i : Int)] w fun en w' => en = .returned (.tuple #[.int .i64 (frN b o r i : Int), .int .i64 (frN b o r (i + 1) : Int)]) ∧ Below w.heap.size w w' := by
  have HB1 : Hid (Below w.heap.size w (w.alloc (.cells (riceC c pa pc ea ec) 24))) := (Below.refl _ _).alloc (Nat.le_refl _) _
  have hbd : (b : Int) / 2 ^ o = ((b / 2 ^ o : Nat) : Int) := by push_cast; rfl
  have hfs := h.fr_succ i
  have hf : frN b o r i = i * (b / 2 ^ o) - r := rfl
  have hfb := frN_bound h (i + 1) hi
  have hmo := frN_mono b o r i
  have hi2 : i < 32768 := by have := (pow15 o h.o15).2; omega
  have hd : b / 2 ^ o ≤ 65535 := by have := Nat.div_le_self b (2 ^ o); have := h.b2; omega
  have hle := h.le
  have hmul : ((i : Int) + 1) * ((b / 2 ^ o : Nat) : Int) = ((frN b o r (i + 1) : Nat) : Int) + (r : Int) := by
    have e : (((i + 1) * (b / 2 ^ o) : Nat) : Int) = ((frN b o r (i + 1) + r : Nat) : Int) := by rw [hfs]
    push_cast at e
    push_cast
    exact e
  have hmul0 : (i : Int) * ((b / 2 ^ o : Nat) : Int) = ((i * (b / 2 ^ o) : Nat) : Int) := by push_cast; rfl
  have hr := h.r2
  have hb2 := h.b2
  have h15 := h.o15
  have hir : ¬ i = 0 → r ≤ i * (b / 2 ^ o) := fun h0 => by have := Nat.mul_le_mul_right (b / 2 ^ o) (show 1 ≤ i by omega); omega
  have hml : i * (b / 2 ^ o) ≤ 70000 := by rw [Nat.add_mul] at hfs; omega
  obtain ⟨cm, co, cP, cE⟩ := c
  dsimp only at ho
  subst ho
  generalize i * (b / 2 ^ o) = mm at *
  generalize frN b o r (i + 1) = t at *
  generalize frN b o r i = f at *
  generalize b / 2 ^ o = d at *
  obtain ⟨e, he⟩ : ∃ e : Int, e = (t : Int) + (r : Int) := ⟨_, rfl⟩
  rw [← he] at hmul
  have hsub : e - (r : Int) = (t : Int) := by omega
  have he1 : 0 ≤ e := by omega
  have he2 : e ≤ 70000 := by omega
  clear he h hi hfs hle
  by_cases h0 : i = 0
  · subst h0
    have hff : f = 0 := by
      have e0 : ((0 : Nat) : Int) * (d : Int) = 0 := by simp
      rw [e0] at hmul0
      omega
    subst hff
    have hdr : (d : Int) - (r : Int) = (t : Int) := by rw [show ((0 : Nat) : Int) + 1 = 1 from rfl, Int.one_mul] at hmul; omega
    clear hir hf hmul0 hmul hsub
    go_enter Try.func36, Try.ntmps36
    go_wp2
    go_ret2
    exact ⟨rfl, HB1.out⟩
  · have hir' := hir h0
    have hsub0 : ((mm : Nat) : Int) - (r : Int) = (f : Int) := by omega
    have hib : ((i : Int) == 0) = false := by rw [beq_eq_false_iff_ne]; omega
    clear hir hf
    go_enter Try.func36, Try.ntmps36
    go_wp2
    go_ret2
    exact ⟨rfl, HB1.out⟩

end Go.Proofs.Ytdlakbgcflekkaa
