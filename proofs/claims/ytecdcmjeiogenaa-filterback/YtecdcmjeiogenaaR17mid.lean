/- Own text: the document's Mid and Unmid. -/
import Derived.Test.YtecdcmjeiogenaaP17zip
import Derived.Test.YtecdcmjeiogenaaR17nw
namespace Go.Proofs.Ytecdcmjeiogenaa
open Go.RowKit
set_option linter.unusedSimpArgs false
set_option linter.unusedVariables false
/-- Two lists that the call makes by append. -/
structure Out2 (w : World) (vX vY : Value) (xs ys : List Int) (X : World) : Prop where
  ox : X.ownsRow w.heap.size 3 1 vX xs.length (intsC xs)
  oy : X.ownsRow w.heap.size 3 1 vY ys.length (intsC ys)
  ab : ∀ g, vX.ownBlock = some g → vY.ownBlock ≠ some g
  below : Below w.heap.size w X
section
variable {w X X' : World} {vX vY : Value} {xs ys : List Int}
theorem Out2.nil (w : World) : Out2 w (.slice none 0 0) (.slice none 0 0) [] [] w := ⟨World.ownsRow_nil _ _ _ _, World.ownsRow_nil _ _ _ _, fun g hg => (by cases hg), Below.refl _ _⟩
theorem Out2.low (h : Out2 w vX vY xs ys X) (hb : Below X.heap.size X X') : Out2 w vX vY xs ys X' := ⟨own_low h.ox hb, own_low h.oy hb, h.ab, h.below.trans (hb.mono h.below.size)⟩
theorem Out2.alloc (h : Out2 w vX vY xs ys X) (o : Obj) : Out2 w vX vY xs ys (X.alloc o) := h.low ((Below.refl _ _).alloc (Nat.le_refl _) _)
theorem Out2.pushX (h : Out2 w vX vY xs ys X) {g cap : Nat} {w1 : World} {p : Int} (ho : w1.ownsRow w.heap.size 3 1 (.slice (some ⟨g, 0, none⟩) (xs.length + 1) cap) (xs.length + 1) (intsC xs ++ [.int .i64 p])) (hg : X.grownBy w1 vX.ownBlock) (hat : vX.ownBlock = some g ∨ g = X.heap.size) : Out2 w (.slice (some ⟨g, 0, none⟩) (xs.length + 1) cap) vY (xs ++ [p]) ys w1 := by
  refine ⟨by rw [List.length_append, intsC_append]; exact ho, ?_, fun y hy hz => ?_, h.below.trans ⟨hg.os, hg.tape, hg.output, hg.size, fun k hk => hg.block k (by have := h.below.size; omega) (fun e => by have := (h.ox.lt k e.symm).1; omega)⟩⟩
  · refine h.oy.kept hg ?_
    cases e : vY.ownBlock with
    | none => exact .inl rfl
    | some y => exact .inr (fun e2 => h.ab y e2.symm e)
  · have e : g = y := by simpa [Value.ownBlock] using hy
    subst e
    rcases hat with h1 | h1
    · exact h.ab _ h1 hz
    · have := (h.oy.lt _ hz).2; omega
theorem Out2.pushY (h : Out2 w vX vY xs ys X) {g cap : Nat} {w1 : World} {p : Int} (ho : w1.ownsRow w.heap.size 3 1 (.slice (some ⟨g, 0, none⟩) (ys.length + 1) cap) (ys.length + 1) (intsC ys ++ [.int .i64 p])) (hg : X.grownBy w1 vY.ownBlock) (hat : vY.ownBlock = some g ∨ g = X.heap.size) : Out2 w vX (.slice (some ⟨g, 0, none⟩) (ys.length + 1) cap) xs (ys ++ [p]) w1 := by
  refine ⟨?_, by rw [List.length_append, intsC_append]; exact ho, fun y hy hz => ?_, h.below.trans ⟨hg.os, hg.tape, hg.output, hg.size, fun k hk => hg.block k (by have := h.below.size; omega) (fun e => by have := (h.oy.lt k e.symm).1; omega)⟩⟩
  · refine h.ox.kept hg ?_
    cases e : vX.ownBlock with
    | none => exact .inl rfl
    | some y => exact .inr (fun e2 => h.ab y e e2.symm)
  · have e : g = y := by simpa [Value.ownBlock] using hz
    subst e
    rcases hat with h1 | h1
    · exact h.ab _ hy h1
    · have := (h.ox.lt _ hy).2; omega
theorem Out2.shape (h : Out2 w vX vY xs ys X) : ∃ xa xc ya yc, vX = .slice xa xs.length xc ∧ vY = .slice ya ys.length yc := by
  obtain ⟨xa, xc, h1, _⟩ := owns_shape h.ox
  obtain ⟨ya, yc, h2, _⟩ := owns_shape h.oy
  exact ⟨xa, xc, ya, yc, h1, h2⟩
end

section
variable {w X w1 : World} {vX vY v : Value} {xs ys : List Int} {p : Int}
theorem Out2.pushXv (h : Out2 w vX vY xs ys X) (ho : w1.ownsRow w.heap.size 3 1 v (xs.length + 1) (intsC xs ++ [.int .i64 p])) (hg : X.grownBy w1 vX.ownBlock) (hat : v.ownBlock = vX.ownBlock ∨ v.ownBlock = some X.heap.size) : ∃ g cap, v = .slice (some ⟨g, 0, none⟩) (xs.length + 1) cap ∧ Out2 w (.slice (some ⟨g, 0, none⟩) (xs.length + 1) cap) vY (xs ++ [p]) ys w1 := by
  obtain ⟨g, cap, rfl, _⟩ := ho.form (Nat.succ_pos _)
  refine ⟨g, cap, rfl, h.pushX ho hg ?_⟩
  rcases hat with e | e
  · exact .inl e.symm
  · right
    have : some g = some X.heap.size := e
    injection this
theorem Out2.pushYv (h : Out2 w vX vY xs ys X) (ho : w1.ownsRow w.heap.size 3 1 v (ys.length + 1) (intsC ys ++ [.int .i64 p])) (hg : X.grownBy w1 vY.ownBlock) (hat : v.ownBlock = vY.ownBlock ∨ v.ownBlock = some X.heap.size) : ∃ g cap, v = .slice (some ⟨g, 0, none⟩) (ys.length + 1) cap ∧ Out2 w vX (.slice (some ⟨g, 0, none⟩) (ys.length + 1) cap) xs (ys ++ [p]) w1 := by
  obtain ⟨g, cap, rfl, _⟩ := ho.form (Nat.succ_pos _)
  refine ⟨g, cap, rfl, h.pushY ho hg ?_⟩
  rcases hat with e | e
  · exact .inl e.symm
  · right
    have : some g = some X.heap.size := e
    injection this
end
/-- Two lists, told. -/
def RetP (X Y : List Int) (w : World) (e : Ending) (w' : World) : Prop := ∃ xa xc ya yc, e = .returned (.tuple #[.slice xa X.length xc, .slice ya Y.length yc]) ∧ IntsAt w' xa X ∧ IntsAt w' ya Y ∧ Below w.heap.size w w'
attribute [local go_sem] Oper.semAt_some
set_option maxRecDepth 20000 in
set_option maxHeartbeats 3200000 in
theorem xmid (a b : List Int) (aa ba : Option Addr) (ac bc : Nat) (w : World) (ha : IntsAt w aa a) (hb : IntsAt w ba b) : Calls Try.prog 13 #[.slice aa a.length ac, .slice ba b.length bc] w (RetP (zipN midN a b (min a.length b.length)) (zipN sidN a b (min a.length b.length)) w) := by
  have HA := hid ha
  have HB := hid hb
  have hal := ha.len
  have hbl := hb.len
  obtain ⟨iI, hI0, hI1, hI2, hI3⟩ := int_info
  have HII : Hid (Try.prog.info? 3 = some iI ∧ iI.zero = some (.int .i64 0) ∧ iI.size = 1 ∧ iI.bytes = 8) := ⟨hI0, hI1, hI2, hI3⟩
  clear ha hb hI0 hI1 hI2 hI3
  obtain ⟨n, hn⟩ : ∃ n, n = min a.length b.length := ⟨_, rfl⟩
  have hna : n ≤ a.length := by omega
  have hnb : n ≤ b.length := by omega
  have HNM : Hid (∀ i, n ≤ i → i < a.length → i < b.length → False) := fun i h1 h2 h3 => by omega
  rw [← hn]
  clear hn
  go_enter Try.func13, Try.ntmps13
  go_wp2_with fail
  go_loopw [6, 7, 8, 9] (fun s6 s7 s8 _ wr => ∃ (i : Nat) (vx vy : Value), i ≤ n ∧ s8 = .int .i64 (i : Int) ∧ s6 = vx ∧ s7 = vy ∧ Out2 w vx vy (zipN midN a b i) (zipN sidN a b i) wr) (fun _ _ s8 _ _ => n - (intOf s8).toNat)
  case atStart => exact ⟨0, _, _, Nat.zero_le _, rfl, rfl, rfl, Out2.nil w⟩
  case round =>
    obtain ⟨i, vx, vy, hi, rfl, rfl, rfl, hout⟩ := hrel
    obtain ⟨xa, xc, ya, yc, rfl, rfl⟩ := hout.shape
    by_cases hlt : i < n
    · obtain ⟨b1, o1, rfl, q1⟩ := HA.out.at i (by omega)
      obtain ⟨b2, o2, rfl, q2⟩ := HB.out.at i (by omega)
      have r1 := q1 wr hout.below
      have r2 := q2 wr hout.below
      clear q1 q2
      have hia : i < a.length := by omega
      have hib : i < b.length := by omega
      have HN1 : Hid (zipN midN a b (i + 1) = zipN midN a b i ++ [midN (a.getD i 0) (b.getD i 0)]) := rfl
      have HN2 : Hid (zipN sidN a b (i + 1) = zipN sidN a b i ++ [sidN (a.getD i 0) (b.getD i 0)]) := rfl
      have hlx := zipN_len midN a b i
      have hly := zipN_len sidN a b i
      have hx5 : (zipN midN a b i).length ≤ 17592186044415 := by omega
      have hy5 : (zipN sidN a b i).length ≤ 17592186044415 := by omega
      clear hlx hly
      generalize zipN midN a b i = xs at *
      generalize zipN sidN a b i = ys at *
      generalize a.getD i 0 = p at *
      generalize b.getD i 0 = q at *
      have HE1 : Hid (midN p q = wrap64 (q + wrap64 (p - q) / 2)) := by show _ = _; simp only [wrap_64]; rfl
      have HE2 : Hid (sidN p q = wrap64 (p - q)) := by show _ = _; simp only [wrap_64]; rfl
      rw [HE1.out] at HN1
      rw [HE2.out] at HN2
      have HO : Hid (Out2 w (.slice xa xs.length xc) (.slice ya ys.length yc) xs ys wr) := hout
      clear hout HE1 HE2
      go_wp2_with fail
      go_quiet (fail)
      have HO2 : Hid (Out2 w (.slice xa xs.length xc) (.slice ya ys.length yc) xs ys (wr.drewN nq)) := HO.out.low (below_drewN _ _)
      have r1 := low_cell (below_drewN wr nq) r1
      have r2 := low_cell (below_drewN wr nq) r2
      generalize wr.drewN nq = w5 at *
      clear HO
      go_wp2_with (first | (at_builtin; refine wpList_append_row _ rfl (.tmp 31) (.tmp 39) 22 rfl w.heap.size 3 iI (.int .i64 0) 1 8 undI3 HII.out.1 HII.out.2.1 HII.out.2.2.1 HII.out.2.2.2 rfl (by decide) (.slice xa xs.length xc) xs.length _ rfl (HO2.out.alloc _).ox ⟨w5.heap.size, 0, none⟩ 1 1 [.int .i64 (wrap64 (q + wrap64 (p - q) / 2))] rfl rfl (one_new w5 _ _) (by simp [Value.oneCell']) (by simp only [maxLen]; omega) (by omega) (HO2.out.alloc _).below.size ?_; intro vX wX ownX groX hatX; have HO3 : Hid (∃ gX cX, vX = .slice (some ⟨gX, 0, none⟩) (xs.length + 1) cX ∧ Out2 w (.slice (some ⟨gX, 0, none⟩) (xs.length + 1) cX) (.slice ya ys.length yc) (xs ++ [wrap64 (q + wrap64 (p - q) / 2)]) ys wX) := (HO2.out.alloc _).pushXv ownX.out groX.out hatX.out; clear ownX groX hatX; obtain ⟨gX, cX, rfl, hO4⟩ := HO3.out; have HO4 := hid hO4; clear hO4 HO3) | (at_builtin; refine wpList_append_row _ rfl (.tmp 41) (.tmp 43) 22 rfl w.heap.size 3 iI (.int .i64 0) 1 8 undI3 HII.out.1 HII.out.2.1 HII.out.2.2.1 HII.out.2.2.2 rfl (by decide) (.slice ya ys.length yc) ys.length _ rfl (HO4.out.alloc _).oy ⟨wX.heap.size, 0, none⟩ 1 1 [.int .i64 (wrap64 (p - q))] rfl rfl (one_new wX _ _) (by simp [Value.oneCell']) (by simp only [maxLen]; omega) (by omega) (HO4.out.alloc _).below.size ?_; intro vY wY ownY groY hatY; have HO5 : Hid (∃ gY cY, vY = .slice (some ⟨gY, 0, none⟩) (ys.length + 1) cY ∧ Out2 w (.slice (some ⟨gX, 0, none⟩) (xs.length + 1) cX) (.slice (some ⟨gY, 0, none⟩) (ys.length + 1) cY) (xs ++ [wrap64 (q + wrap64 (p - q) / 2)]) (ys ++ [wrap64 (p - q)]) wY) := (HO4.out.alloc _).pushYv ownY.out groY.out hatY.out; clear ownY groY hatY; obtain ⟨gY, cY, rfl, hO6⟩ := HO5.out; have HO6 := hid hO6; clear hO6 HO5))
      go_roundw
      case rel => exact ⟨i + 1, _, _, by omega, by go_num, rfl, rfl, by rw [HN1.out, HN2.out]; exact HO6.out⟩
      case measure => simp [intOf]; omega
    · have hie : i = n := by omega
      subst hie
      have HI : Hid (IntsAt wr xa (zipN midN a b i) ∧ IntsAt wr ya (zipN sidN a b i) ∧ Below w.heap.size w wr) := ⟨own_ints hout.ox (by rw [zipN_len]; omega) (zipN_in _ midN_in _ _ _), own_ints hout.oy (by rw [zipN_len]; omega) (zipN_in _ sidN_in _ _ _), hout.below⟩
      clear hout
      have HNF : Hid (i < a.length → i < b.length → False) := HNM.out i (Nat.le_refl _)
      by_cases hia : i < a.length
      · have hib : ¬ i < b.length := fun h => HNF.out hia h
        clear HNF HNM
        go_wp2_with fail
        refine bodyPost_ret (results_tmp2 rfl _ _ _) rfl ?_
        exact ⟨xa, xc, ya, yc, rfl, HI.out⟩
      · clear HNF HNM
        go_wp2_with fail
        refine bodyPost_ret (results_tmp2 rfl _ _ _) rfl ?_
        exact ⟨xa, xc, ya, yc, rfl, HI.out⟩
set_option maxRecDepth 20000 in
set_option maxHeartbeats 3200000 in
theorem xunmid (a b : List Int) (aa ba : Option Addr) (ac bc : Nat) (w : World) (ha : IntsAt w aa a) (hb : IntsAt w ba b) : Calls Try.prog 15 #[.slice aa a.length ac, .slice ba b.length bc] w (RetP (zipN unaN a b (min a.length b.length)) (zipN unbN a b (min a.length b.length)) w) := by
  have HA := hid ha
  have HB := hid hb
  have hal := ha.len
  have hbl := hb.len
  obtain ⟨iI, hI0, hI1, hI2, hI3⟩ := int_info
  have HII : Hid (Try.prog.info? 3 = some iI ∧ iI.zero = some (.int .i64 0) ∧ iI.size = 1 ∧ iI.bytes = 8) := ⟨hI0, hI1, hI2, hI3⟩
  clear ha hb hI0 hI1 hI2 hI3
  obtain ⟨n, hn⟩ : ∃ n, n = min a.length b.length := ⟨_, rfl⟩
  have hna : n ≤ a.length := by omega
  have hnb : n ≤ b.length := by omega
  have HNM : Hid (∀ i, n ≤ i → i < a.length → i < b.length → False) := fun i h1 h2 h3 => by omega
  rw [← hn]
  clear hn
  go_enter Try.func15, Try.ntmps15
  go_wp2_with fail
  go_loopw [6, 7, 8, 9] (fun s6 s7 s8 _ wr => ∃ (i : Nat) (vx vy : Value), i ≤ n ∧ s8 = .int .i64 (i : Int) ∧ s6 = vx ∧ s7 = vy ∧ Out2 w vx vy (zipN unaN a b i) (zipN unbN a b i) wr) (fun _ _ s8 _ _ => n - (intOf s8).toNat)
  case atStart => exact ⟨0, _, _, Nat.zero_le _, rfl, rfl, rfl, Out2.nil w⟩
  case round =>
    obtain ⟨i, vx, vy, hi, rfl, rfl, rfl, hout⟩ := hrel
    obtain ⟨xa, xc, ya, yc, rfl, rfl⟩ := hout.shape
    by_cases hlt : i < n
    · obtain ⟨b1, o1, rfl, q1⟩ := HA.out.at i (by omega)
      obtain ⟨b2, o2, rfl, q2⟩ := HB.out.at i (by omega)
      have r1 := q1 wr hout.below
      have r2 := q2 wr hout.below
      clear q1 q2
      have hia : i < a.length := by omega
      have hib : i < b.length := by omega
      have HN1 : Hid (zipN unaN a b (i + 1) = zipN unaN a b i ++ [unaN (a.getD i 0) (b.getD i 0)]) := rfl
      have HN2 : Hid (zipN unbN a b (i + 1) = zipN unbN a b i ++ [unbN (a.getD i 0) (b.getD i 0)]) := rfl
      have hlx := zipN_len unaN a b i
      have hly := zipN_len unbN a b i
      have hx5 : (zipN unaN a b i).length ≤ 17592186044415 := by omega
      have hy5 : (zipN unbN a b i).length ≤ 17592186044415 := by omega
      clear hlx hly
      generalize zipN unaN a b i = xs at *
      generalize zipN unbN a b i = ys at *
      generalize a.getD i 0 = p at *
      generalize b.getD i 0 = q at *
      have HE1 : Hid (unaN p q = wrap64 (wrap64 (p - q / 2) + q)) := by show _ = _; simp only [wrap_64]; rfl
      have HE2 : Hid (unbN p q = wrap64 (p - q / 2)) := by show _ = _; simp only [wrap_64]; rfl
      rw [HE1.out] at HN1
      rw [HE2.out] at HN2
      have HO : Hid (Out2 w (.slice xa xs.length xc) (.slice ya ys.length yc) xs ys wr) := hout
      clear hout HE1 HE2
      go_wp2_with fail
      go_quiet (fail)
      have HO2 : Hid (Out2 w (.slice xa xs.length xc) (.slice ya ys.length yc) xs ys (wr.drewN nq)) := HO.out.low (below_drewN _ _)
      have r1 := low_cell (below_drewN wr nq) r1
      have r2 := low_cell (below_drewN wr nq) r2
      generalize wr.drewN nq = w5 at *
      clear HO
      go_wp2_with (first | (at_builtin; refine wpList_append_row _ rfl (.tmp 32) (.tmp 39) 22 rfl w.heap.size 3 iI (.int .i64 0) 1 8 undI3 HII.out.1 HII.out.2.1 HII.out.2.2.1 HII.out.2.2.2 rfl (by decide) (.slice xa xs.length xc) xs.length _ rfl (HO2.out.alloc _).ox ⟨w5.heap.size, 0, none⟩ 1 1 [.int .i64 (wrap64 (wrap64 (p - q / 2) + q))] rfl rfl (one_new w5 _ _) (by simp [Value.oneCell']) (by simp only [maxLen]; omega) (by omega) (HO2.out.alloc _).below.size ?_; intro vX wX ownX groX hatX; have HO3 : Hid (∃ gX cX, vX = .slice (some ⟨gX, 0, none⟩) (xs.length + 1) cX ∧ Out2 w (.slice (some ⟨gX, 0, none⟩) (xs.length + 1) cX) (.slice ya ys.length yc) (xs ++ [wrap64 (wrap64 (p - q / 2) + q)]) ys wX) := (HO2.out.alloc _).pushXv ownX.out groX.out hatX.out; clear ownX groX hatX; obtain ⟨gX, cX, rfl, hO4⟩ := HO3.out; have HO4 := hid hO4; clear hO4 HO3) | (at_builtin; refine wpList_append_row _ rfl (.tmp 41) (.tmp 43) 22 rfl w.heap.size 3 iI (.int .i64 0) 1 8 undI3 HII.out.1 HII.out.2.1 HII.out.2.2.1 HII.out.2.2.2 rfl (by decide) (.slice ya ys.length yc) ys.length _ rfl (HO4.out.alloc _).oy ⟨wX.heap.size, 0, none⟩ 1 1 [.int .i64 (wrap64 (p - q / 2))] rfl rfl (one_new wX _ _) (by simp [Value.oneCell']) (by simp only [maxLen]; omega) (by omega) (HO4.out.alloc _).below.size ?_; intro vY wY ownY groY hatY; have HO5 : Hid (∃ gY cY, vY = .slice (some ⟨gY, 0, none⟩) (ys.length + 1) cY ∧ Out2 w (.slice (some ⟨gX, 0, none⟩) (xs.length + 1) cX) (.slice (some ⟨gY, 0, none⟩) (ys.length + 1) cY) (xs ++ [wrap64 (wrap64 (p - q / 2) + q)]) (ys ++ [wrap64 (p - q / 2)]) wY) := (HO4.out.alloc _).pushYv ownY.out groY.out hatY.out; clear ownY groY hatY; obtain ⟨gY, cY, rfl, hO6⟩ := HO5.out; have HO6 := hid hO6; clear hO6 HO5))
      go_roundw
      case rel => exact ⟨i + 1, _, _, by omega, by go_num, rfl, rfl, by rw [HN1.out, HN2.out]; exact HO6.out⟩
      case measure => simp [intOf]; omega
    · have hie : i = n := by omega
      subst hie
      have HI : Hid (IntsAt wr xa (zipN unaN a b i) ∧ IntsAt wr ya (zipN unbN a b i) ∧ Below w.heap.size w wr) := ⟨own_ints hout.ox (by rw [zipN_len]; omega) (zipN_in _ unaN_in _ _ _), own_ints hout.oy (by rw [zipN_len]; omega) (zipN_in _ unbN_in _ _ _), hout.below⟩
      clear hout
      have HNF : Hid (i < a.length → i < b.length → False) := HNM.out i (Nat.le_refl _)
      by_cases hia : i < a.length
      · have hib : ¬ i < b.length := fun h => HNF.out hia h
        clear HNF HNM
        go_wp2_with fail
        refine bodyPost_ret (results_tmp2 rfl _ _ _) rfl ?_
        exact ⟨xa, xc, ya, yc, rfl, HI.out⟩
      · clear HNF HNM
        go_wp2_with fail
        refine bodyPost_ret (results_tmp2 rfl _ _ _) rfl ?_
        exact ⟨xa, xc, ya, yc, rfl, HI.out⟩

end Go.Proofs.Ytecdcmjeiogenaa
