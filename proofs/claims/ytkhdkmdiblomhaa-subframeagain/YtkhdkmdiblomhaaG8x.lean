/- Own text: the bits of residuals, reckoned by both. the walk of the program's Check. -/
import Derived.Test.YtkhdkmdiblomhaaG7x
namespace Go.Proofs.Ytkhdkmdiblomhaa
open Go.RowKit
set_option linter.unusedSimpArgs false
set_option linter.unusedVariables false

theorem qfolded_spec (n : Int) (h1 : -9223372036854775808 ≤ n) (h2 : n ≤ 9223372036854775807) (w : World) :
    Calls Try.prog 92 #[.int .i64 n] w fun e w' => e = .returned (.int .u64 (foldN n : Int)) ∧ w' = w := by
  by_cases h0 : 0 ≤ n
  · go_enter Try.func92, Try.ntmps92
    go_wp2
    go_ret
    refine ⟨ret_int ?_, rfl⟩
    rw [foldN_pos n h0, show n / 9223372036854775808 = ((0 : Nat) : Int) from by omega, show n * 2 = (((2 * n).toNat : Nat) : Int) from by omega, u64_xor_nat _ _ (by omega) (by omega), Nat.xor_zero]
    omega
  · go_enter Try.func92, Try.ntmps92
    go_wp2
    go_ret
    refine ⟨ret_int ?_, rfl⟩
    have e1 : IntKind.u64.wrap (IntKind.u64.wrap n * 2) = (((18446744073709551616 + 2 * n).toNat : Nat) : Int) := by
      rw [IntKind.wrap_u64, IntKind.wrap_u64]; omega
    have e2 : IntKind.u64.wrap (n / 9223372036854775808) = ((18446744073709551615 : Nat) : Int) := by
      rw [IntKind.wrap_u64]; omega
    rw [foldN_neg n (by omega), e1, e2, u64_xor_nat _ _ (by omega) (by omega), xor_ones _ (by omega)]
    omega

theorem IntsAt.at {w : World} {ao : Option Addr} {l : List Int} (h : IntsAt w ao l) (k : Nat) (hk : k < l.length) :
    ∃ b off, ao = some ⟨b, off, none⟩ ∧ (∀ w', Below w.heap.size w w' → w'.cell? ⟨b, off + k, none⟩ = some (.int .i64 (l.getD k 0))) := by
  obtain ⟨b, off, e, hc⟩ := h.lies (by omega)
  refine ⟨b, off, e, fun w' hb => ?_⟩
  have h1 := hc k hk
  rw [World.cell?_of_block (w := w) (hb.block b (lt_cell h1))]
  exact h1
theorem getD_mem (l : List Int) (k : Nat) (h : k < l.length) : l.getD k 0 ∈ l := by
  rw [List.getD_eq_getElem?_getD, List.getElem?_eq_getElem h]; exact List.getElem_mem h
theorem take_snoc (l : List Int) (k : Nat) (h : k < l.length) : l.take (k + 1) = l.take k ++ [l.getD k 0] := by
  rw [List.take_add_one, List.getElem?_eq_getElem h, List.getD_eq_getElem?_getD, List.getElem?_eq_getElem h]; rfl
/-- Residuals, not too many. -/
def ShX (l : List Int) : Prop := True ∧ l.length ≤ 65535
def oneC (k : Nat) (x : Int) : Nat := foldN x / 2 ^ k + 1 + k
def costN (l : List Int) (k : Nat) : Nat := (l.map (oneC k)).sum
theorem costN_nil (k : Nat) : costN [] k = 0 := rfl
theorem costN_append (l m : List Int) (k : Nat) : costN (l ++ m) k = costN l k + costN m k := by unfold costN; rw [List.map_append, List.sum_append]
theorem costN_snoc (l : List Int) (x : Int) (k : Nat) : costN (l ++ [x]) k = costN l k + oneC k x := by rw [costN_append]; simp [costN]
theorem costN_le (l : List Int) (k : Nat) (hk : k ≤ 30) (h : ∀ x ∈ l, foldN x / 2 ^ k ≤ 16777216) : costN l k ≤ 16777247 * l.length := by
  induction l with
  | nil => simp [costN]
  | cons x t ih =>
    have h1 := ih (fun y hy => h y (List.mem_cons_of_mem _ hy))
    have h2 := h x (List.mem_cons_self ..)
    have : costN (x :: t) k = oneC k x + costN t k := by simp [costN]
    rw [this, List.length_cons]; unfold oneC; omega
theorem ShX.take {l : List Int} (h : ShX l) (n : Nat) : ShX (l.take n) := ⟨trivial, by have := h.2; rw [List.length_take]; omega⟩
theorem ShX.drop {l : List Int} (h : ShX l) (n : Nat) : ShX (l.drop n) := ⟨trivial, by have := h.2; rw [List.length_drop]; omega⟩
theorem ShX.part {l : List Int} (h : ShX l) (b o r i : Nat) : ShX (partN l b o r i) := (h.drop _).take _
def codB (l : List Int) (k : Nat) : Bool := l.all fun x => decide (foldN x / 2 ^ k ≤ 16777216)
theorem codB_iff (l : List Int) (k : Nat) : codB l k = true ↔ ∀ x ∈ l, foldN x / 2 ^ k ≤ 16777216 := by unfold codB; simp
def costI (l : List Int) (k : Int) : Int := if k < 0 ∨ 30 < k then -1 else if codB l k.toNat = true then (costN l k.toNat : Int) else -1
set_option maxRecDepth 20000 in
set_option maxHeartbeats 3200000 in
theorem cost_spec (l : List Int) (k : Int) (ao : Option Addr) (cap : Nat) (hs : ShX l) (w : World) (hl : IntsAt w ao l) :
    Calls Try.prog 77 #[.slice ao l.length cap, .int .i64 k] w fun e w' => e = .returned (.int .i64 (costI l k)) ∧ ∃ n, w' = w.drewN n := by
  by_cases h0 : k < 0
  · have HC : Hid (costI l k = -1) := by show _ = _; unfold costI; rw [if_pos (Or.inl h0)]
    clear hs hl
    go_enter Try.func77, Try.ntmps77
    go_wp2_with fail
    go_ret
    exact ⟨by rw [HC.out]; rfl, 0, rfl⟩
  by_cases h1 : 30 < k
  · have HC : Hid (costI l k = -1) := by show _ = _; unfold costI; rw [if_pos (Or.inr h1)]
    clear hs hl
    go_enter Try.func77, Try.ntmps77
    go_wp2_with fail
    go_ret
    exact ⟨by rw [HC.out]; rfl, 0, rfl⟩
  obtain ⟨k, rfl⟩ : ∃ k' : Nat, k = k' := ⟨k.toNat, by omega⟩
  have HC : Hid (codB l k = true → costI l (k : Int) = (costN l k : Int)) := fun hc => by unfold costI; rw [if_neg (by omega), Int.toNat_natCast, if_pos hc]
  have HCN : Hid (codB l k = false → costI l (k : Int) = -1) := fun hc => by unfold costI; rw [if_neg (by omega), Int.toNat_natCast, if_neg (by rw [hc]; decide)]
  have HL : Hid (IntsAt w ao l) := hl
  have h2 := hl.len
  have h5 := hs.2
  clear hl hs
  go_enter Try.func77, Try.ntmps77
  go_wp2_with fail
  go_loopw [5, 7, 8, 17] (fun s5 s7 s8 s17 wr => ∃ j n : Nat, j ≤ l.length ∧ s17 = .int .i64 (j : Int) ∧ s5 = .int .i64 ((costN (l.take j) k : Nat) : Int) ∧ (∀ x ∈ l.take j, foldN x / 2 ^ k ≤ 16777216) ∧ wr = w.drewN n) (fun _ _ _ s17 _ => l.length - (intOf s17).toNat)
  case atStart => exact ⟨0, 0, Nat.zero_le _, rfl, rfl, fun x hx => absurd hx (by simp), rfl⟩
  case round =>
    obtain ⟨j, n, hj, rfl, rfl, hal, rfl⟩ := hrel
    have HAL : Hid (∀ x ∈ l.take j, foldN x / 2 ^ k ≤ 16777216) := hal
    have hc0 := costN_le (l.take j) k (by omega) hal
    have hc : costN (l.take j) k ≤ 1099600000000 := by rw [List.length_take] at hc0; omega
    clear hal hc0
    by_cases hlt : j < l.length
    · obtain ⟨b1, o1, rfl, q1⟩ := HL.out.at j hlt
      have r1 := q1 (w.drewN n) (below_drewN _ _)
      have hx := HL.out.rng j
      have HN : Hid (costN (l.take (j + 1)) k = costN (l.take j) k + oneC k (l.getD j 0)) := by show _ = _; rw [take_snoc l j hlt, costN_snoc]
      have HT : Hid (l.take (j + 1) = l.take j ++ [l.getD j 0]) := take_snoc l j hlt
      have HM : Hid (l.getD j 0 ∈ l) := getD_mem l j hlt
      clear q1
      generalize l.getD j 0 = x at *
      have kf := qfolded_spec x (by omega) (by omega) (w.drewN n)
      have kfl := foldN_lt x (by omega) (by omega)
      have hdc := div_cast (foldN x) k
      have hqf : foldN x / 2 ^ k ≤ foldN x := Nat.div_le_self _ _
      have HQ : Hid (oneC k x = foldN x / 2 ^ k + 1 + k) := rfl
      by_cases hbig : foldN x / 2 ^ k ≤ 16777216
      · have HAL2 : Hid (∀ y ∈ l.take (j + 1), foldN y / 2 ^ k ≤ 16777216) := fun y hy => by
          rw [HT.out] at hy
          rcases List.mem_append.1 hy with hy | hy
          · exact HAL.out y hy
          · rw [List.mem_singleton] at hy; rw [hy]; exact hbig
        generalize hq : foldN x / 2 ^ k = q at *
        clear hq
        generalize costN (l.take j) k = s at *
        generalize hfx : foldN x = fx at *
        clear hfx
        go_wp2_with fail
        refine kf.mono ?_
        rintro e w4 ⟨rfl, rfl⟩
        go_wp2_with fail
        go_roundw
        case rel => exact ⟨j + 1, n, by omega, by go_num, by rw [HN.out, HQ.out]; go_num, HAL2.out, rfl⟩
        case measure => simp [intOf]; omega
      · have HNO : Hid (costI l (k : Int) = -1) := HCN.out (by
          cases h : codB l k with
          | false => rfl
          | true => exact absurd ((codB_iff l k).1 h x HM.out) hbig)
        generalize hq : foldN x / 2 ^ k = q at *
        clear hq
        generalize costN (l.take j) k = s at *
        generalize hfx : foldN x = fx at *
        clear hfx
        have hb2 : 16777216 < (q : Int) := by omega
        go_wp2_with fail
        refine kf.mono ?_
        rintro e w4 ⟨rfl, rfl⟩
        go_wp2_with fail
        go_ret
        exact ⟨by rw [HNO.out]; rfl, n, rfl⟩
    · have HE : Hid (l.take j = l) := List.take_of_length_le (by omega)
      have HY : Hid (costI l (k : Int) = (costN l k : Int)) := HC.out ((codB_iff l k).2 (by have := HAL.out; rwa [HE.out] at this))
      go_wp2_with fail
      go_ret
      exact ⟨by rw [HY.out, HE.out]; rfl, n, rfl⟩
theorem fit_sig (n : Int) (e : Nat) (h0 : ¬ e = 0) (he : e ≤ 31) : fitE 0 e n ↔ (-2 ^ (e - 1) ≤ n ∧ n < 2 ^ (e - 1)) := by
  unfold fitE sigE
  rw [if_neg (by omega), if_neg (by omega)]
  have e1 : ((e : Int)).toNat = e := by omega
  rw [e1]
  constructor
  · intro h
    split at h
    · rename_i h1; exact h1.2.2
    · cases h
  · intro h
    rw [if_pos ⟨by omega, by omega, h⟩]
set_option maxRecDepth 20000 in
set_option maxHeartbeats 3200000 in
theorem isWithin_spec (n : Int) (e : Nat) (he : e ≤ 31) (w : World) :
    Calls Try.prog 93 #[.int .i64 n, .int .i64 (e : Int)] w fun en w' => en = .returned (.bool (fitT 0 e n)) ∧ w' = w := by
  by_cases h0 : e = 0
  · subst h0
    by_cases h : n = 0
    · have hd : fitT 0 (0 : Nat) n = true := by unfold fitT; simp [h]
      have hb : (n == 0) = true := by rw [h]; rfl
      rw [hd]
      clear hd
      clear h
      go_enter Try.func93, Try.ntmps93
      go_wp2
      go_ret
      exact ⟨rfl, rfl⟩
    · have hd : fitT 0 (0 : Nat) n = false := by unfold fitT; simp [h]
      have hb : (n == 0) = false := by rw [beq_eq_false_iff_ne]; exact h
      rw [hd]
      clear hd
      clear h
      go_enter Try.func93, Try.ntmps93
      go_wp2
      go_ret
      exact ⟨rfl, rfl⟩
  · have hd := sign_div n (e - 1)
    have hf := fit_sig n e h0 he
    have hp : 0 < (2 : Int) ^ (e - 1) := Int.pow_pos (by decide)
    by_cases h : -2 ^ (e - 1) ≤ n ∧ n < 2 ^ (e - 1)
    · rw [fitT_yes (hf.2 h)]
      by_cases hn : 0 ≤ n
      · have e0 : n / 2 ^ (e - 1) = 0 := hd.1.2 ⟨hn, h.2⟩
        clear hd hf hp h
        go_enter Try.func93, Try.ntmps93
        go_wp2
        go_ret
        exact ⟨rfl, rfl⟩
      · have e0 : n / 2 ^ (e - 1) = -1 := hd.2.2 ⟨h.1, by omega⟩
        clear hd hf hp h
        go_enter Try.func93, Try.ntmps93
        go_wp2
        go_ret
        exact ⟨rfl, rfl⟩
    · rw [fitT_no (fun hh => h (hf.1 hh))]
      have e0 : (n / 2 ^ (e - 1) == 0) = false := by rw [beq_eq_false_iff_ne, ne_eq, hd.1]; omega
      have e1 : (n / 2 ^ (e - 1) == -1) = false := by rw [beq_eq_false_iff_ne, ne_eq, hd.2]; omega
      clear hd hf hp h
      go_enter Try.func93, Try.ntmps93
      go_wp2
      go_ret
      exact ⟨rfl, rfl⟩
set_option maxRecDepth 20000 in
set_option maxHeartbeats 3200000 in
theorem areWithin_spec (l : List Int) (e : Nat) (he : e ≤ 31) (ao : Option Addr) (cap : Nat) (w : World) (hl : IntsAt w ao l) :
    Calls Try.prog 78 #[.slice ao l.length cap, .int .i64 (e : Int)] w fun en w' => en = .returned (.bool (allT 0 e l)) ∧ ∃ n, w' = w.drewN n := by
  have HL : Hid (IntsAt w ao l) := hl
  have h2 := hl.len
  clear hl
  go_enter Try.func78, Try.ntmps78
  go_wp2_with fail
  go_loopw [6, 9] (fun s6 s9 wr => ∃ j n : Nat, j ≤ l.length ∧ s9 = .int .i64 (j : Int) ∧ (∀ x ∈ l.take j, fitE 0 e x) ∧ wr = w.drewN n) (fun _ s9 _ => l.length - (intOf s9).toNat)
  case atStart => exact ⟨0, 0, Nat.zero_le _, rfl, fun x hx => absurd hx (by simp), rfl⟩
  case round =>
    obtain ⟨j, n, hj, rfl, hs, rfl⟩ := hrel
    have HS : Hid (∀ x ∈ l.take j, fitE 0 e x) := hs
    clear hs
    by_cases hlt : j < l.length
    · obtain ⟨b1, o1, rfl, q1⟩ := HL.out.at j hlt
      have r1 := q1 (w.drewN n) (below_drewN _ _)
      have HT : Hid (l.take (j + 1) = l.take j ++ [l.getD j 0]) := take_snoc l j hlt
      have HM : Hid (l.getD j 0 ∈ l) := getD_mem l j hlt
      clear q1
      generalize l.getD j 0 = x at *
      have kw := isWithin_spec x e he (w.drewN n)
      by_cases hx : fitE 0 e x
      · have HX : Hid (fitE 0 e x) := hx
        rw [fitT_yes hx] at kw
        clear hx
        go_wp2_with fail
        refine kw.mono ?_
        rintro en w4 ⟨rfl, rfl⟩
        go_wp2_with fail
        go_roundw
        case rel =>
          refine ⟨j + 1, n, by omega, by go_num, fun y hy => ?_, rfl⟩
          rw [HT.out] at hy
          rcases List.mem_append.1 hy with hy | hy
          · exact HS.out y hy
          · rw [List.mem_singleton] at hy; rw [hy]; exact HX.out
        case measure => simp [intOf]; omega
      · have HD : Hid (allT 0 e l = false) := allT_no (fun hh => hx (hh x HM.out))
        rw [fitT_no hx] at kw
        clear hx
        go_wp2_with fail
        refine kw.mono ?_
        rintro en w4 ⟨rfl, rfl⟩
        go_wp2_with fail
        go_ret
        exact ⟨by rw [HD.out]; rfl, n, rfl⟩
    · have HE : Hid (allT 0 e l = true) := allT_yes (by have := HS.out; rwa [List.take_of_length_le (by omega)] at this)
      go_wp2_with fail
      go_ret
      exact ⟨by rw [HE.out]; rfl, n, rfl⟩

end Go.Proofs.Ytkhdkmdiblomhaa

namespace Go.Proofs.Ytkhdkmdiblomhaa
open Go.RowKit
set_option linter.unusedSimpArgs false
set_option linter.unusedVariables false

def chkN (c : Rc) (b r : Int) : Int := if chkOk c b r then 0 else 60
theorem chk_no {c : Rc} {b r : Int} (h : ¬ chkOk c b r) : chkN c b r = 60 := by unfold chkN; rw [if_neg h]
theorem chk_yes {c : Rc} {b r : Int} (h : chkOk c b r) : chkN c b r = 0 := by unfold chkN; rw [if_pos h]

/-- A recipe's box and a cut's behind it. -/
structure CB (w : World) (c : Rc) (pa : Option Addr) (pc : Nat) (ea : Option Addr) (ec : Nat) (q : Nat) (p s f : Int) (wx : World) : Prop where
  rb : RB w c pa pc ea ec wx
  box : wx.heap[q]? = some (.cells #[.int .i64 p, .int .i64 s, .int .i64 f] 94 (0, 0))
  lt : w.heap.size < q
section
variable {w wx w' : World} {c : Rc} {pa : Option Addr} {pc : Nat} {ea : Option Addr} {ec : Nat} {q : Nat} {p s f : Int}
theorem CB.new (h : RB w c pa pc ea ec wx) (p s f : Int) : CB w c pa pc ea ec wx.heap.size p s f (wx.alloc (.cells #[.int .i64 p, .int .i64 s, .int .i64 f] 94)) :=
  ⟨h.next ((Below.refl _ _).alloc (Nat.le_refl _) _), heap_alloc_new _ _, lt_of_block h.box⟩
theorem CB.next (h : CB w c pa pc ea ec q p s f wx) (hb : Below wx.heap.size wx w') : CB w c pa pc ea ec q p s f w' :=
  ⟨h.rb.next hb, by rw [hb.block _ (lt_of_block h.box)]; exact h.box, h.lt⟩
theorem CB.past (h : CB w c pa pc ea ec q p s f wx) (hb : Below (q + 1) wx w') : CB w c pa pc ea ec q p s f w' :=
  ⟨h.rb.past (hb.mono (by have := h.lt; omega)), by rw [hb.block _ (by omega)]; exact h.box, h.lt⟩
theorem CB.drewN (h : CB w c pa pc ea ec q p s f wx) (n : Nat) : CB w c pa pc ea ec q p s f (wx.drewN n) := h.next (below_drewN _ _)
theorem CB.q0 (h : CB w c pa pc ea ec q p s f wx) : wx.cell? ⟨q, 0, none⟩ = some (.int .i64 p) := by rw [cell_of_row _ _ _ _ _ _ h.box]; rfl
theorem CB.q1 (h : CB w c pa pc ea ec q p s f wx) : wx.cell? ⟨q, 1, none⟩ = some (.int .i64 s) := by rw [cell_of_row _ _ _ _ _ _ h.box]; rfl
theorem CB.q2 (h : CB w c pa pc ea ec q p s f wx) : wx.cell? ⟨q, 2, none⟩ = some (.int .i64 f) := by rw [cell_of_row _ _ _ _ _ _ h.box]; rfl
end
set_option maxRecDepth 20000 in
set_option maxHeartbeats 3200000 in
theorem check_spec (c : Rc) (b r : Int) (pa : Option Addr) (pc : Nat) (ea : Option Addr) (ec : Nat) (w : World) (hr : RcAt w c pa ea) :
    Calls Try.prog 59 #[riceV c pa pc ea ec, .int .i64 b, .int .i64 r] w fun en w' => en = .returned (.int .i64 (chkN c b r)) ∧ Below w.heap.size w w' := by
  have HB0 : Hid (RB w c pa pc ea ec (w.alloc (.cells (riceC c pa pc ea ec) 24))) := RB.new w c pa pc ea ec
  have HR : Hid (RcAt w c pa ea) := hr
  clear hr
  by_cases hcut : cutOk b r c.o
  case neg =>
    have HN : Hid (chkN c b r = 60) := chk_no (fun h => hcut h.2.1)
    have KC : Hid (∀ wx, Calls Try.prog 60 #[.int .i64 b, .int .i64 r, .int .i64 c.o] wx fun e w' => ∃ p s f, e = .returned (.tuple #[cutV p s f, .bool false]) ∧ Below wx.heap.size wx w') := fun wx => cutOf_no b c.o r hcut wx
    clear hcut
    go_enter Try.func59, Try.ntmps59
    go_wp2_with fail
    generalize hwa : w.alloc _ = wa
    have HA : Hid (RB w c pa pc ea ec wa) := by rw [← hwa]; exact HB0.out
    clear hwa HB0
    refine (KC.out wa).mono ?_
    rintro en w2 ⟨p, s, f, rfl, hb2⟩
    have HR2 : Hid (RB w c pa pc ea ec w2) := HA.out.next hb2
    clear HA hb2
    have HC2 : Hid (CB w c pa pc ea ec w2.heap.size p s f (w2.alloc (.cells #[.int .i64 p, .int .i64 s, .int .i64 f] 94))) := CB.new HR2.out _ _ _
    clear HR2
    have x0 := HC2.out.rb.c0
    have x2 := HC2.out.rb.c2
    have x3 := HC2.out.rb.c3
    have y0 := HC2.out.q0
    have HBL : Hid (Below w.heap.size w (w2.alloc (.cells #[.int .i64 p, .int .i64 s, .int .i64 f] 94))) := HC2.out.rb.below
    go_wp2_with fail
    go_ret
    exact ⟨by rw [HN.out]; rfl, HBL.out⟩
  case pos =>
    obtain ⟨b, r, o, rfl, rfl, ho, hC⟩ := Cut.of hcut
    have KC : Hid (∀ wx, Calls Try.prog 60 #[.int .i64 (b : Int), .int .i64 (r : Int), .int .i64 c.o] wx fun e w' => e = .returned (.tuple #[cutV ((2 ^ o : Nat) : Int) ((b / 2 ^ o : Nat) : Int) (r : Int), .bool true]) ∧ Below wx.heap.size wx w') := fun wx => by rw [ho]; exact cutOf_yes b o r hC wx
    have HCUT : Hid (cutOk b r c.o) := hcut
    have HO : Hid (2 ^ c.o.toNat = 2 ^ o) := by show _ = _; rw [show c.o.toNat = o by omega]
    have hp := pow15 o hC.o15
    clear hcut ho
    generalize hpn : 2 ^ o = N at *
    generalize b / N = d at *
    clear hpn
    have hn32 := hp.2
    have hE := HR.out.E.len
    have hP := HR.out.P.len
    by_cases m0 : c.m < 0
    · have hno : ¬ chkOk c b r := fun h => by have := h.1; omega
      have HN : Hid (chkN c b r = 60) := chk_no hno
      clear hno
      go_enter Try.func59, Try.ntmps59
      go_wp2_with fail
      generalize hwa : w.alloc _ = wa
      have HA : Hid (RB w c pa pc ea ec wa) := by rw [← hwa]; exact HB0.out
      clear hwa HB0
      refine (KC.out wa).mono ?_
      rintro en w2 ⟨rfl, hb2⟩
      have HR2 : Hid (RB w c pa pc ea ec w2) := HA.out.next hb2
      clear HA hb2
      have HC2 : Hid (CB w c pa pc ea ec w2.heap.size (N : Int) (d : Int) (r : Int) (w2.alloc (.cells #[.int .i64 (N : Int), .int .i64 (d : Int), .int .i64 (r : Int)] 94))) := CB.new HR2.out _ _ _
      clear HR2
      have x0 := HC2.out.rb.c0
      have x2 := HC2.out.rb.c2
      have x3 := HC2.out.rb.c3
      have y0 := HC2.out.q0
      have HBL : Hid (Below w.heap.size w (w2.alloc (.cells #[.int .i64 (N : Int), .int .i64 (d : Int), .int .i64 (r : Int)] 94))) := HC2.out.rb.below
      go_wp2_with fail
      go_ret
      exact ⟨by rw [HN.out]; rfl, HBL.out⟩
    by_cases m1 : 1 < c.m
    · have hno : ¬ chkOk c b r := fun h => by have := h.1; omega
      have HN : Hid (chkN c b r = 60) := chk_no hno
      clear hno
      go_enter Try.func59, Try.ntmps59
      go_wp2_with fail
      generalize hwa : w.alloc _ = wa
      have HA : Hid (RB w c pa pc ea ec wa) := by rw [← hwa]; exact HB0.out
      clear hwa HB0
      refine (KC.out wa).mono ?_
      rintro en w2 ⟨rfl, hb2⟩
      have HR2 : Hid (RB w c pa pc ea ec w2) := HA.out.next hb2
      clear HA hb2
      have HC2 : Hid (CB w c pa pc ea ec w2.heap.size (N : Int) (d : Int) (r : Int) (w2.alloc (.cells #[.int .i64 (N : Int), .int .i64 (d : Int), .int .i64 (r : Int)] 94))) := CB.new HR2.out _ _ _
      clear HR2
      have x0 := HC2.out.rb.c0
      have x2 := HC2.out.rb.c2
      have x3 := HC2.out.rb.c3
      have y0 := HC2.out.q0
      have HBL : Hid (Below w.heap.size w (w2.alloc (.cells #[.int .i64 (N : Int), .int .i64 (d : Int), .int .i64 (r : Int)] 94))) := HC2.out.rb.below
      go_wp2_with fail
      go_ret
      exact ⟨by rw [HN.out]; rfl, HBL.out⟩
    by_cases l1 : c.P.length = N
    case neg =>
      have hno : ¬ chkOk c b r := fun h => l1 (by have := h.2.2.1; rwa [HO.out] at this)
      have hbn : ((c.P.length : Int) != (N : Int)) = true := by rw [bne_iff_ne]; omega
      have HN : Hid (chkN c b r = 60) := chk_no hno
      clear hno
      go_enter Try.func59, Try.ntmps59
      go_wp2_with fail
      generalize hwa : w.alloc _ = wa
      have HA : Hid (RB w c pa pc ea ec wa) := by rw [← hwa]; exact HB0.out
      clear hwa HB0
      refine (KC.out wa).mono ?_
      rintro en w2 ⟨rfl, hb2⟩
      have HR2 : Hid (RB w c pa pc ea ec w2) := HA.out.next hb2
      clear HA hb2
      have HC2 : Hid (CB w c pa pc ea ec w2.heap.size (N : Int) (d : Int) (r : Int) (w2.alloc (.cells #[.int .i64 (N : Int), .int .i64 (d : Int), .int .i64 (r : Int)] 94))) := CB.new HR2.out _ _ _
      clear HR2
      have x0 := HC2.out.rb.c0
      have x2 := HC2.out.rb.c2
      have x3 := HC2.out.rb.c3
      have y0 := HC2.out.q0
      have HBL : Hid (Below w.heap.size w (w2.alloc (.cells #[.int .i64 (N : Int), .int .i64 (d : Int), .int .i64 (r : Int)] 94))) := HC2.out.rb.below
      go_wp2_with fail
      go_ret
      exact ⟨by rw [HN.out]; rfl, HBL.out⟩
    have hbp : ((c.P.length : Int) != (N : Int)) = false := by rw [bne_eq_false_iff_eq]; omega
    by_cases l2 : c.E.length = N
    case neg =>
      have hno : ¬ chkOk c b r := fun h => l2 (by have := h.2.2.2.1; rwa [HO.out] at this)
      have hbn : ((c.E.length : Int) != (N : Int)) = true := by rw [bne_iff_ne]; omega
      have HN : Hid (chkN c b r = 60) := chk_no hno
      clear hno
      go_enter Try.func59, Try.ntmps59
      go_wp2_with fail
      generalize hwa : w.alloc _ = wa
      have HA : Hid (RB w c pa pc ea ec wa) := by rw [← hwa]; exact HB0.out
      clear hwa HB0
      refine (KC.out wa).mono ?_
      rintro en w2 ⟨rfl, hb2⟩
      have HR2 : Hid (RB w c pa pc ea ec w2) := HA.out.next hb2
      clear HA hb2
      have HC2 : Hid (CB w c pa pc ea ec w2.heap.size (N : Int) (d : Int) (r : Int) (w2.alloc (.cells #[.int .i64 (N : Int), .int .i64 (d : Int), .int .i64 (r : Int)] 94))) := CB.new HR2.out _ _ _
      clear HR2
      have x0 := HC2.out.rb.c0
      have x2 := HC2.out.rb.c2
      have x3 := HC2.out.rb.c3
      have y0 := HC2.out.q0
      have HBL : Hid (Below w.heap.size w (w2.alloc (.cells #[.int .i64 (N : Int), .int .i64 (d : Int), .int .i64 (r : Int)] 94))) := HC2.out.rb.below
      go_wp2_with fail
      go_ret
      exact ⟨by rw [HN.out]; rfl, HBL.out⟩
    have hbe : ((c.E.length : Int) != (N : Int)) = false := by rw [bne_eq_false_iff_eq]; omega
    have KM : Hid (∀ k e wx, Calls Try.prog 74 #[.int .i64 c.m, .int .i64 k, .int .i64 e] wx fun en w' => en = .returned (.bool (decide (mayOk c.m k e))) ∧ w' = wx) := fun k e wx => mayBe_spec c.m k e (by omega) (by omega) wx
    have HNB : Hid (∀ j, j < N → ¬ mayOk c.m (c.P.getD j 0) (c.E.getD j 0) → chkN c b r = 60) := fun j hj h => chk_no (fun hh => h (hh.2.2.2.2 j (by rw [HO.out]; exact hj)))
    have HYS : Hid ((∀ j, j < N → mayOk c.m (c.P.getD j 0) (c.E.getD j 0)) → chkN c b r = 0) := fun h => chk_yes ⟨⟨by omega, by omega⟩, HCUT.out, by rw [HO.out]; exact l1, by rw [HO.out]; exact l2, fun j hj => h j (by rw [HO.out] at hj; exact hj)⟩
    have HL1 : Hid (c.P.length = N) := l1
    have HL2 : Hid (c.E.length = N) := l2
    clear l1 l2
    go_enter Try.func59, Try.ntmps59
    go_wp2_with fail
    generalize hwa : w.alloc _ = wa
    have HA : Hid (RB w c pa pc ea ec wa) := by rw [← hwa]; exact HB0.out
    clear hwa HB0
    refine (KC.out wa).mono ?_
    rintro en w2 ⟨rfl, hb2⟩
    have HR2 : Hid (RB w c pa pc ea ec w2) := HA.out.next hb2
    clear HA hb2
    have HC2 : Hid (CB w c pa pc ea ec w2.heap.size (N : Int) (d : Int) (r : Int) (w2.alloc (.cells #[.int .i64 (N : Int), .int .i64 (d : Int), .int .i64 (r : Int)] 94))) := CB.new HR2.out _ _ _
    clear HR2
    have x0 := HC2.out.rb.c0
    have x2 := HC2.out.rb.c2
    have x3 := HC2.out.rb.c3
    have y0 := HC2.out.q0
    have HBL : Hid (Below w.heap.size w (w2.alloc (.cells #[.int .i64 (N : Int), .int .i64 (d : Int), .int .i64 (r : Int)] 94))) := HC2.out.rb.below

    go_wp2_with fail
    clear x0 x2 x3 y0
    generalize hwc : w2.alloc _ = wc at *
    generalize w2.heap.size = q at *
    clear hwc HBL
    go_loopw [9, 46] (fun s9 s46 wr => ∃ j : Nat, j ≤ N ∧ s46 = .int .i64 (j : Int) ∧ (∀ i, i < j → mayOk c.m (c.P.getD i 0) (c.E.getD i 0)) ∧ CB w c pa pc ea ec q (N : Int) (d : Int) (r : Int) wr) (fun _ s46 _ => N - (intOf s46).toNat)
    case atStart => exact ⟨0, Nat.zero_le _, rfl, fun i hi => absurd hi (Nat.not_lt_zero _), HC2.out⟩
    case round =>
      obtain ⟨j, hj, rfl, hs, hcb⟩ := hrel
      have HW : Hid (CB w c pa pc ea ec q (N : Int) (d : Int) (r : Int) wr) := hcb
      clear hcb HC2
      have HS : Hid (∀ i, i < j → mayOk c.m (c.P.getD i 0) (c.E.getD i 0)) := hs
      clear hs
      by_cases hlt : j < N
      · have hjP : j < c.P.length := by rw [HL1.out]; exact hlt
        have hjE : j < c.E.length := by rw [HL2.out]; exact hlt
        obtain ⟨b1, o1, e1, q1⟩ := HR.out.P.at j hjP
        obtain ⟨b2, o2, e2, q2⟩ := HR.out.E.at j hjE
        have r1 := q1 wr HW.out.rb.below
        have r2 := q2 wr HW.out.rb.below
        have x0 := HW.out.rb.c0
        have x2 := HW.out.rb.c2
        have x3 := HW.out.rb.c3
        rw [e1] at x2
        rw [e2] at x3
        clear q1 q2 e1 e2
        by_cases hx : mayOk c.m (c.P.getD j 0) (c.E.getD j 0)
        · have HX : Hid (∀ i, i = j → mayOk c.m (c.P.getD i 0) (c.E.getD i 0)) := fun i hi => by rw [hi]; exact hx
          have km := KM.out (c.P.getD j 0) (c.E.getD j 0)
          rw [decide_eq_true hx] at km
          clear hx
          generalize c.P.getD j 0 = kk at *
          generalize c.E.getD j 0 = ee at *
          go_wp2_with fail
          go_quiet ((go_at_call 74; exact Calls.quiet_of_same (km _)))
          go_wp2_with fail
          go_roundw
          case rel =>
            refine ⟨j + 1, by omega, by go_num, fun i hi => ?_, HW.out.drewN _⟩
            by_cases e : i = j
            · exact HX.out i e
            · exact HS.out i (by omega)
          case measure => simp [intOf]; omega
        · have HN : Hid (chkN c b r = 60) := HNB.out j hlt hx
          have km := KM.out (c.P.getD j 0) (c.E.getD j 0)
          rw [decide_eq_false hx] at km
          clear hx
          generalize c.P.getD j 0 = kk at *
          generalize c.E.getD j 0 = ee at *
          go_wp2_with fail
          go_quiet ((go_at_call 74; exact Calls.quiet_of_same (km _)))
          go_wp2_with fail
          go_ret
          exact ⟨by rw [HN.out]; rfl, (HW.out.drewN _).rb.below⟩
      · have HN : Hid (chkN c b r = 0) := HYS.out (fun i hi => HS.out i (by omega))
        go_wp2_with fail
        go_ret
        exact ⟨by rw [HN.out]; rfl, HW.out.rb.below⟩

end Go.Proofs.Ytkhdkmdiblomhaa
