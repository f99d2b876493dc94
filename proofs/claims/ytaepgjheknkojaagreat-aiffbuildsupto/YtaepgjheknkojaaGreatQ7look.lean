/- Own text: the walk of look (aiff). -/
import Derived.Test.YtaepgjheknkojaaGreatG30x
import Derived.Deep.RegionWith
import Derived.Deep.CutRange
import Derived.Deep.RegionHeld3
namespace Go.Proofs.YtaepgjheknkojaaGreat
open Go.RowKit
set_option linter.unusedSimpArgs false
set_option linter.unusedVariables false

abbrev filC (x : Com) (i : Int) : Array Value := #[.int .i64 x.rate, .int .i64 x.ch, .int .i64 x.wd, .int .i64 x.smp, .bool x.lit, .int .i64 i]
abbrev zeroF7 : Array Value := #[.int .i64 0, .int .i64 0, .int .i64 0, .int .i64 0, .bool false, .int .i64 0]
theorem infoF7 : (Tryz.prog.info? 70).map (·.size) = some 6 := by kernel_rfl
theorem fil_ret7 {wf : World} {b : Nat} {d : Array Value} (h : Box b d 70 wf) (hd : d.size = 6) (a' : Act) (n : Value) (h2 : a'.tmps.getD 2 undef = .pointer (some ⟨b, 0, none⟩)) (h3 : a'.tmps.getD 3 undef = n) :
    (results Tryz.f28 a'.tmps).run Tryz.prog wf = .ok (.tuple #[.agg d, n]) wf := by
  rw [res_two_cell rfl]
  have hld := run_loadVar_row (P := Tryz.prog) wf b 70 70 d (0, 0) _ h Tryz.underlying70 rfl (by rw [hd]; exact infoF7)
  simp [h2, h3, asAddr, Result.andThen, hld]
/-- look's boxes: the argument's, the answer's. -/
structure Jl7 (w0 : World) (f : ByteArray) (l : List Chk) (ao : Option Addr) (cap : Nat) (w : World) : Prop where
  arg : Box w0.heap.size #[.string f, .slice ao l.length cap] 27 w
  res : Box (w0.heap.size + 1) zeroF7 70 w
  below : Below w0.heap.size w0 w
theorem Jl7.new (w : World) (f : ByteArray) (l : List Chk) (ao : Option Addr) (cap : Nat) : Jl7 w f l ao cap ((w.alloc (.cells #[.string f, .slice ao l.length cap] 27)).alloc (.cells zeroF7 70)) :=
  ⟨(Box.new w _ _).next (belA _ _), Box.new2 w _ _ _, bel2 _ _ _⟩
theorem Jl7.next {w0 w w1 : World} {f : ByteArray} {l : List Chk} {ao : Option Addr} {cap : Nat} (h : Jl7 w0 f l ao cap w) (hB : Below w.heap.size w w1) : Jl7 w0 f l ao cap w1 := ⟨h.arg.next hB, h.res.next hB, below_on h.below hB⟩
/-- And the box of what COMM says. -/
structure Jk7 (w0 : World) (f : ByteArray) (l : List Chk) (ao : Option Addr) (cap Q : Nat) (x : Com) (w : World) : Prop where
  l : Jl7 w0 f l ao cap w
  bx : Box Q (sndC7 x) 68 w
theorem Jk7.next {w0 w w1 : World} {f : ByteArray} {l : List Chk} {ao : Option Addr} {cap Q : Nat} {x : Com} (h : Jk7 w0 f l ao cap Q x w) (hB : Below w.heap.size w w1) : Jk7 w0 f l ao cap Q x w1 := ⟨h.l.next hB, h.bx.next hB⟩
theorem Jk7.new {w0 w : World} {f : ByteArray} {l : List Chk} {ao : Option Addr} {cap : Nat} (h : Jl7 w0 f l ao cap w) (x : Com) : Jk7 w0 f l ao cap w.heap.size x (w.alloc (.cells (sndC7 x) 68)) := ⟨h.next (belA _ _), Box.new _ _ _⟩
theorem Jk7.zero {w0 w : World} {f : ByteArray} {l : List Chk} {ao : Option Addr} {cap Q : Nat} (h : Jl7 w0 f l ao cap w) (hq : Box Q zeroS7 68 w) (hlo : w0.heap.size + 1 < Q) (x : Com) :
    Jk7 w0 f l ao cap Q x (((((w.setCell ⟨Q, 0, none⟩ (.int .i64 x.rate)).setCell ⟨Q, 1, none⟩ (.int .i64 x.ch)).setCell ⟨Q, 2, none⟩ (.int .i64 x.wd)).setCell ⟨Q, 3, none⟩ (.int .i64 x.smp)).setCell ⟨Q, 4, none⟩ (.bool x.lit)) := by
  have n1 : w0.heap.size ≠ Q := by omega
  have n2 : w0.heap.size + 1 ≠ Q := by omega
  have le : w0.heap.size ≤ Q := by omega
  refine ⟨⟨?_, ?_, ?_⟩, ((((hq.set 0 _).set 1 _).set 2 _).set 3 _).set 4 _⟩
  · exact ((((h.arg.other (a := ⟨Q, 0, none⟩) n1 _).other (a := ⟨Q, 1, none⟩) n1 _).other (a := ⟨Q, 2, none⟩) n1 _).other (a := ⟨Q, 3, none⟩) n1 _).other (a := ⟨Q, 4, none⟩) n1 _
  · exact ((((h.res.other (a := ⟨Q, 0, none⟩) n2 _).other (a := ⟨Q, 1, none⟩) n2 _).other (a := ⟨Q, 2, none⟩) n2 _).other (a := ⟨Q, 3, none⟩) n2 _).other (a := ⟨Q, 4, none⟩) n2 _
  · exact ((((h.below.setCell le _).setCell le _).setCell le _).setCell le _).setCell le _
theorem lkB_parts {f : ByteArray} {l : List Chk} (h : lkB f l = true) : formB f = true ∧ (findN l commT).2 = 1 ∧ (findN l ssndT).2 ≤ 1 := by
  unfold lkB at h
  obtain ⟨h1, h2⟩ := Bool.and_eq_true_iff.1 h
  obtain ⟨h3, h4⟩ := Bool.and_eq_true_iff.1 h2
  exact ⟨h1, eq_of_beq h3, by simpa using h4⟩
theorem comm_at {f : ByteArray} {l : List Chk} (h : lkB f l = true) : ∃ i c, l[i]? = some c ∧ (findN l commT).1 = ((i : Nat) : Int) ∧ (c.id.toList == commT.toList) = true ∧ cmB l = c.body := by
  obtain ⟨_, h2, _⟩ := lkB_parts h
  rcases findN_cases l commT with ⟨_, q, _⟩ | ⟨i, c, q1, q2, q3, _⟩
  · rw [h2] at q
    cases q
  · refine ⟨i, c, q1, q2, q3, ?_⟩
    unfold cmB
    rw [q2, atC_get l i c q1]

set_option maxRecDepth 20000 in
set_option maxHeartbeats 3200000 in
theorem look7_form (f : ByteArray) (l : List Chk) (ao : Option Addr) (cap : Nat) (w : World) (hl : ChksAt w ao l) (hll : l.length ≤ 9000000000000000) (h1 : formB f = false) :
    Calls Tryz.prog 28 #[.agg #[.string f, .slice ao l.length cap]] w fun e w' => e = .returned (.tuple #[.agg (filC (lkX f l) (lkI f l)), .int .i64 (lkE f l)]) ∧ Below w.heap.size w w' := by
  have hlk : lkB f l = false := by unfold lkB; rw [h1]; rfl
  have HE : Hid (lkE f l = 2) := by show _ = _; unfold lkE; rw [hlk]; rfl
  have HXX : Hid (lkX f l = noCom) := by show _ = _; unfold lkX; rw [hlk]; rfl
  have HI : Hid (lkI f l = 0) := by show _ = _; unfold lkI; rw [hlk]; rfl
  clear hlk
  have HJ0 : Hid (Jl7 w f l ao cap ((w.alloc (.cells #[.string f, .slice ao l.length cap] 27)).alloc (.cells zeroF7 70))) := Jl7.new w f l ao cap
  have HL : Hid (ChksAt w ao l) := hl
  have K1 : Hid (∀ wx, Below w.heap.size w wx → Calls Tryz.prog 54 #[.string ⟨#[67, 79, 77, 77]⟩, .slice ao l.length cap] wx fun e w' => e = .returned (.tuple #[.int .i64 (findN l commT).1, .int .i64 (findN l commT).2]) ∧ Below wx.heap.size wx w') := fun wx hx => find7_spec l commT ao cap wx (HL.out.below hx) hll
  have K2 : Hid (∀ wx, Below w.heap.size w wx → Calls Tryz.prog 54 #[.string ⟨#[83, 83, 78, 68]⟩, .slice ao l.length cap] wx fun e w' => e = .returned (.tuple #[.int .i64 (findN l ssndT).1, .int .i64 (findN l ssndT).2]) ∧ Below wx.heap.size wx w') := fun wx hx => find7_spec l ssndT ao cap wx (HL.out.below hx) hll
  have kf := isForm_spec f
  rw [h1] at kf
  generalize (findN l commT).1 = C1 at *
  generalize (findN l commT).2 = C2 at *
  generalize (findN l ssndT).1 = S1 at *
  generalize (findN l ssndT).2 = S2 at *
  go_enter Tryz.func28, Tryz.ntmps28
  go_wp2_with fail
  refine (K1.out _ HJ0.out.below).mono ?_
  rintro e w1 ⟨rfl, hB1⟩
  have HJ1 : Hid (Jl7 w f l ao cap w1) := HJ0.out.next hB1
  clear K1 hB1 HJ0
  have a0 := HJ1.out.arg.c 0 _ rfl
  have a1 := HJ1.out.arg.c 1 _ rfl
  go_wp2_with fail
  refine (K2.out _ HJ1.out.below).mono ?_
  rintro e w2 ⟨rfl, hB2⟩
  have HJ2 : Hid (Jl7 w f l ao cap w2) := HJ1.out.next hB2
  clear K2 hB2 HJ1 a0 a1
  have a0 := HJ2.out.arg.c 0 _ rfl
  have a1 := HJ2.out.arg.c 1 _ rfl
  go_wp2_with fail
  refine (kf _).mono ?_
  rintro e w3 ⟨rfl, rfl⟩
  clear kf
  have r0 := HJ2.out.res.c 0 _ rfl
  have z0 := HJ2.out.res.z 0
  have r1 := HJ2.out.res.c 1 _ rfl
  have z1 := HJ2.out.res.z 1
  have r2 := HJ2.out.res.c 2 _ rfl
  have z2 := HJ2.out.res.z 2
  have r3 := HJ2.out.res.c 3 _ rfl
  have z3 := HJ2.out.res.z 3
  have r4 := HJ2.out.res.c 4 _ rfl
  have z4 := HJ2.out.res.z 4
  have r5 := HJ2.out.res.c 5 _ rfl
  have z5 := HJ2.out.res.z 5
  have HFIN : Hid (Box (w.heap.size + 1) zeroF7 70 ((((((w3.setCell ⟨w.heap.size + 1, 0, none⟩ (.int .i64 0)).setCell ⟨w.heap.size + 1, 1, none⟩ (.int .i64 0)).setCell ⟨w.heap.size + 1, 2, none⟩ (.int .i64 0)).setCell ⟨w.heap.size + 1, 3, none⟩ (.int .i64 0)).setCell ⟨w.heap.size + 1, 4, none⟩ (.bool false)).setCell ⟨w.heap.size + 1, 5, none⟩ (.int .i64 0)) ∧ Below w.heap.size w ((((((w3.setCell ⟨w.heap.size + 1, 0, none⟩ (.int .i64 0)).setCell ⟨w.heap.size + 1, 1, none⟩ (.int .i64 0)).setCell ⟨w.heap.size + 1, 2, none⟩ (.int .i64 0)).setCell ⟨w.heap.size + 1, 3, none⟩ (.int .i64 0)).setCell ⟨w.heap.size + 1, 4, none⟩ (.bool false)).setCell ⟨w.heap.size + 1, 5, none⟩ (.int .i64 0))) := ⟨((((((HJ2.out.res.set 0 (.int .i64 0)).set 1 (.int .i64 0)).set 2 (.int .i64 0)).set 3 (.int .i64 0)).set 4 (.bool false)).set 5 (.int .i64 0)), ((((((HJ2.out.below.setCell (Nat.le_succ _) _).setCell (Nat.le_succ _) _).setCell (Nat.le_succ _) _).setCell (Nat.le_succ _) _).setCell (Nat.le_succ _) _).setCell (Nat.le_succ _) _)⟩
  go_wp2_with fail
  exact bodyPost_ret (v := .tuple #[.agg zeroF7, .int .i64 (2)]) (fil_ret7 HFIN.out.1 rfl _ _ rfl rfl) rfl ⟨by rw [HE.out, HXX.out, HI.out]; rfl, HFIN.out.2⟩

set_option maxRecDepth 20000 in
set_option maxHeartbeats 3200000 in
theorem look7_comm (f : ByteArray) (l : List Chk) (ao : Option Addr) (cap : Nat) (w : World) (hl : ChksAt w ao l) (hll : l.length ≤ 9000000000000000) (h1 : formB f = true) (h2 : ((findN l commT).2 != 1) = true) :
    Calls Tryz.prog 28 #[.agg #[.string f, .slice ao l.length cap]] w fun e w' => e = .returned (.tuple #[.agg (filC (lkX f l) (lkI f l)), .int .i64 (lkE f l)]) ∧ Below w.heap.size w w' := by
  have hlk : lkB f l = false := by unfold lkB; rw [h1, show ((findN l commT).2 == 1) = false from by simpa using h2]; rfl
  have HE : Hid (lkE f l = 2) := by show _ = _; unfold lkE; rw [hlk]; rfl
  have HXX : Hid (lkX f l = noCom) := by show _ = _; unfold lkX; rw [hlk]; rfl
  have HI : Hid (lkI f l = 0) := by show _ = _; unfold lkI; rw [hlk]; rfl
  clear hlk
  have HJ0 : Hid (Jl7 w f l ao cap ((w.alloc (.cells #[.string f, .slice ao l.length cap] 27)).alloc (.cells zeroF7 70))) := Jl7.new w f l ao cap
  have HL : Hid (ChksAt w ao l) := hl
  have K1 : Hid (∀ wx, Below w.heap.size w wx → Calls Tryz.prog 54 #[.string ⟨#[67, 79, 77, 77]⟩, .slice ao l.length cap] wx fun e w' => e = .returned (.tuple #[.int .i64 (findN l commT).1, .int .i64 (findN l commT).2]) ∧ Below wx.heap.size wx w') := fun wx hx => find7_spec l commT ao cap wx (HL.out.below hx) hll
  have K2 : Hid (∀ wx, Below w.heap.size w wx → Calls Tryz.prog 54 #[.string ⟨#[83, 83, 78, 68]⟩, .slice ao l.length cap] wx fun e w' => e = .returned (.tuple #[.int .i64 (findN l ssndT).1, .int .i64 (findN l ssndT).2]) ∧ Below wx.heap.size wx w') := fun wx hx => find7_spec l ssndT ao cap wx (HL.out.below hx) hll
  have kf := isForm_spec f
  rw [h1] at kf
  generalize (findN l commT).1 = C1 at *
  generalize (findN l commT).2 = C2 at *
  generalize (findN l ssndT).1 = S1 at *
  generalize (findN l ssndT).2 = S2 at *
  go_enter Tryz.func28, Tryz.ntmps28
  go_wp2_with fail
  refine (K1.out _ HJ0.out.below).mono ?_
  rintro e w1 ⟨rfl, hB1⟩
  have HJ1 : Hid (Jl7 w f l ao cap w1) := HJ0.out.next hB1
  clear K1 hB1 HJ0
  have a0 := HJ1.out.arg.c 0 _ rfl
  have a1 := HJ1.out.arg.c 1 _ rfl
  go_wp2_with fail
  refine (K2.out _ HJ1.out.below).mono ?_
  rintro e w2 ⟨rfl, hB2⟩
  have HJ2 : Hid (Jl7 w f l ao cap w2) := HJ1.out.next hB2
  clear K2 hB2 HJ1 a0 a1
  have a0 := HJ2.out.arg.c 0 _ rfl
  have a1 := HJ2.out.arg.c 1 _ rfl
  go_wp2_with fail
  refine (kf _).mono ?_
  rintro e w3 ⟨rfl, rfl⟩
  clear kf
  have r0 := HJ2.out.res.c 0 _ rfl
  have z0 := HJ2.out.res.z 0
  have r1 := HJ2.out.res.c 1 _ rfl
  have z1 := HJ2.out.res.z 1
  have r2 := HJ2.out.res.c 2 _ rfl
  have z2 := HJ2.out.res.z 2
  have r3 := HJ2.out.res.c 3 _ rfl
  have z3 := HJ2.out.res.z 3
  have r4 := HJ2.out.res.c 4 _ rfl
  have z4 := HJ2.out.res.z 4
  have r5 := HJ2.out.res.c 5 _ rfl
  have z5 := HJ2.out.res.z 5
  have HFIN : Hid (Box (w.heap.size + 1) zeroF7 70 ((((((w3.setCell ⟨w.heap.size + 1, 0, none⟩ (.int .i64 0)).setCell ⟨w.heap.size + 1, 1, none⟩ (.int .i64 0)).setCell ⟨w.heap.size + 1, 2, none⟩ (.int .i64 0)).setCell ⟨w.heap.size + 1, 3, none⟩ (.int .i64 0)).setCell ⟨w.heap.size + 1, 4, none⟩ (.bool false)).setCell ⟨w.heap.size + 1, 5, none⟩ (.int .i64 0)) ∧ Below w.heap.size w ((((((w3.setCell ⟨w.heap.size + 1, 0, none⟩ (.int .i64 0)).setCell ⟨w.heap.size + 1, 1, none⟩ (.int .i64 0)).setCell ⟨w.heap.size + 1, 2, none⟩ (.int .i64 0)).setCell ⟨w.heap.size + 1, 3, none⟩ (.int .i64 0)).setCell ⟨w.heap.size + 1, 4, none⟩ (.bool false)).setCell ⟨w.heap.size + 1, 5, none⟩ (.int .i64 0))) := ⟨((((((HJ2.out.res.set 0 (.int .i64 0)).set 1 (.int .i64 0)).set 2 (.int .i64 0)).set 3 (.int .i64 0)).set 4 (.bool false)).set 5 (.int .i64 0)), ((((((HJ2.out.below.setCell (Nat.le_succ _) _).setCell (Nat.le_succ _) _).setCell (Nat.le_succ _) _).setCell (Nat.le_succ _) _).setCell (Nat.le_succ _) _).setCell (Nat.le_succ _) _)⟩
  go_wp2_with fail
  exact bodyPost_ret (v := .tuple #[.agg zeroF7, .int .i64 (2)]) (fil_ret7 HFIN.out.1 rfl _ _ rfl rfl) rfl ⟨by rw [HE.out, HXX.out, HI.out]; rfl, HFIN.out.2⟩

set_option maxRecDepth 20000 in
set_option maxHeartbeats 3200000 in
theorem look7_ssnd (f : ByteArray) (l : List Chk) (ao : Option Addr) (cap : Nat) (w : World) (hl : ChksAt w ao l) (hll : l.length ≤ 9000000000000000) (h1 : formB f = true) (h2 : ((findN l commT).2 != 1) = false) (h3 : decide (1 < (findN l ssndT).2) = true) :
    Calls Tryz.prog 28 #[.agg #[.string f, .slice ao l.length cap]] w fun e w' => e = .returned (.tuple #[.agg (filC (lkX f l) (lkI f l)), .int .i64 (lkE f l)]) ∧ Below w.heap.size w w' := by
  have hlk : lkB f l = false := by unfold lkB; rw [h1, show ((findN l commT).2 == 1) = true from by simpa using h2, h3]; rfl
  have HE : Hid (lkE f l = 2) := by show _ = _; unfold lkE; rw [hlk]; rfl
  have HXX : Hid (lkX f l = noCom) := by show _ = _; unfold lkX; rw [hlk]; rfl
  have HI : Hid (lkI f l = 0) := by show _ = _; unfold lkI; rw [hlk]; rfl
  clear hlk
  have HJ0 : Hid (Jl7 w f l ao cap ((w.alloc (.cells #[.string f, .slice ao l.length cap] 27)).alloc (.cells zeroF7 70))) := Jl7.new w f l ao cap
  have HL : Hid (ChksAt w ao l) := hl
  have K1 : Hid (∀ wx, Below w.heap.size w wx → Calls Tryz.prog 54 #[.string ⟨#[67, 79, 77, 77]⟩, .slice ao l.length cap] wx fun e w' => e = .returned (.tuple #[.int .i64 (findN l commT).1, .int .i64 (findN l commT).2]) ∧ Below wx.heap.size wx w') := fun wx hx => find7_spec l commT ao cap wx (HL.out.below hx) hll
  have K2 : Hid (∀ wx, Below w.heap.size w wx → Calls Tryz.prog 54 #[.string ⟨#[83, 83, 78, 68]⟩, .slice ao l.length cap] wx fun e w' => e = .returned (.tuple #[.int .i64 (findN l ssndT).1, .int .i64 (findN l ssndT).2]) ∧ Below wx.heap.size wx w') := fun wx hx => find7_spec l ssndT ao cap wx (HL.out.below hx) hll
  have kf := isForm_spec f
  rw [h1] at kf
  generalize (findN l commT).1 = C1 at *
  generalize (findN l commT).2 = C2 at *
  generalize (findN l ssndT).1 = S1 at *
  generalize (findN l ssndT).2 = S2 at *
  go_enter Tryz.func28, Tryz.ntmps28
  go_wp2_with fail
  refine (K1.out _ HJ0.out.below).mono ?_
  rintro e w1 ⟨rfl, hB1⟩
  have HJ1 : Hid (Jl7 w f l ao cap w1) := HJ0.out.next hB1
  clear K1 hB1 HJ0
  have a0 := HJ1.out.arg.c 0 _ rfl
  have a1 := HJ1.out.arg.c 1 _ rfl
  go_wp2_with fail
  refine (K2.out _ HJ1.out.below).mono ?_
  rintro e w2 ⟨rfl, hB2⟩
  have HJ2 : Hid (Jl7 w f l ao cap w2) := HJ1.out.next hB2
  clear K2 hB2 HJ1 a0 a1
  have a0 := HJ2.out.arg.c 0 _ rfl
  have a1 := HJ2.out.arg.c 1 _ rfl
  go_wp2_with fail
  refine (kf _).mono ?_
  rintro e w3 ⟨rfl, rfl⟩
  clear kf
  have r0 := HJ2.out.res.c 0 _ rfl
  have z0 := HJ2.out.res.z 0
  have r1 := HJ2.out.res.c 1 _ rfl
  have z1 := HJ2.out.res.z 1
  have r2 := HJ2.out.res.c 2 _ rfl
  have z2 := HJ2.out.res.z 2
  have r3 := HJ2.out.res.c 3 _ rfl
  have z3 := HJ2.out.res.z 3
  have r4 := HJ2.out.res.c 4 _ rfl
  have z4 := HJ2.out.res.z 4
  have r5 := HJ2.out.res.c 5 _ rfl
  have z5 := HJ2.out.res.z 5
  have HFIN : Hid (Box (w.heap.size + 1) zeroF7 70 ((((((w3.setCell ⟨w.heap.size + 1, 0, none⟩ (.int .i64 0)).setCell ⟨w.heap.size + 1, 1, none⟩ (.int .i64 0)).setCell ⟨w.heap.size + 1, 2, none⟩ (.int .i64 0)).setCell ⟨w.heap.size + 1, 3, none⟩ (.int .i64 0)).setCell ⟨w.heap.size + 1, 4, none⟩ (.bool false)).setCell ⟨w.heap.size + 1, 5, none⟩ (.int .i64 0)) ∧ Below w.heap.size w ((((((w3.setCell ⟨w.heap.size + 1, 0, none⟩ (.int .i64 0)).setCell ⟨w.heap.size + 1, 1, none⟩ (.int .i64 0)).setCell ⟨w.heap.size + 1, 2, none⟩ (.int .i64 0)).setCell ⟨w.heap.size + 1, 3, none⟩ (.int .i64 0)).setCell ⟨w.heap.size + 1, 4, none⟩ (.bool false)).setCell ⟨w.heap.size + 1, 5, none⟩ (.int .i64 0))) := ⟨((((((HJ2.out.res.set 0 (.int .i64 0)).set 1 (.int .i64 0)).set 2 (.int .i64 0)).set 3 (.int .i64 0)).set 4 (.bool false)).set 5 (.int .i64 0)), ((((((HJ2.out.below.setCell (Nat.le_succ _) _).setCell (Nat.le_succ _) _).setCell (Nat.le_succ _) _).setCell (Nat.le_succ _) _).setCell (Nat.le_succ _) _).setCell (Nat.le_succ _) _)⟩
  go_wp2_with fail
  exact bodyPost_ret (v := .tuple #[.agg zeroF7, .int .i64 (2)]) (fil_ret7 HFIN.out.1 rfl _ _ rfl rfl) rfl ⟨by rw [HE.out, HXX.out, HI.out]; rfl, HFIN.out.2⟩

set_option maxRecDepth 20000 in
set_option maxHeartbeats 3200000 in
theorem look7_yes (f : ByteArray) (l : List Chk) (ao : Option Addr) (cap : Nat) (w : World) (hl : ChksAt w ao l) (hll : l.length ≤ 9000000000000000) (hlk : lkB f l = true) (hbs : ∀ c ∈ l, c.body.size ≤ 140737488351232) :
    Calls Tryz.prog 28 #[.agg #[.string f, .slice ao l.length cap]] w fun e w' => e = .returned (.tuple #[.agg (filC (lkX f l) (lkI f l)), .int .i64 (lkE f l)]) ∧ Below w.heap.size w w' := by
  obtain ⟨h1, g2, g3⟩ := lkB_parts hlk
  obtain ⟨i, c, hc, hCi, _, hcm⟩ := comm_at hlk
  have hil := (List.getElem?_eq_some_iff.1 hc).1
  have h2 : ((findN l commT).2 != 1) = false := by rw [g2]; rfl
  have h3 : decide (1 < (findN l ssndT).2) = false := decide_eq_false (by omega)
  have HE : Hid (lkE f l = comE c.body (kB f)) := by show _ = _; unfold lkE; rw [hlk, hcm]; rfl
  have HXX : Hid (lkX f l = comR c.body (kB f)) := by show _ = _; unfold lkX; rw [hlk, hcm]; rfl
  have HI : Hid (lkI f l = (findN l ssndT).1) := by show _ = _; unfold lkI; rw [hlk]; rfl
  have hbz := hbs c (List.mem_of_getElem? hc)
  have HJ0 : Hid (Jl7 w f l ao cap ((w.alloc (.cells #[.string f, .slice ao l.length cap] 27)).alloc (.cells zeroF7 70))) := Jl7.new w f l ao cap
  have HL : Hid (ChksAt w ao l) := hl
  have K1 : Hid (∀ wx, Below w.heap.size w wx → Calls Tryz.prog 54 #[.string ⟨#[67, 79, 77, 77]⟩, .slice ao l.length cap] wx fun e w' => e = .returned (.tuple #[.int .i64 (findN l commT).1, .int .i64 (findN l commT).2]) ∧ Below wx.heap.size wx w') := fun wx hx => find7_spec l commT ao cap wx (HL.out.below hx) hll
  have K2 : Hid (∀ wx, Below w.heap.size w wx → Calls Tryz.prog 54 #[.string ⟨#[83, 83, 78, 68]⟩, .slice ao l.length cap] wx fun e w' => e = .returned (.tuple #[.int .i64 (findN l ssndT).1, .int .i64 (findN l ssndT).2]) ∧ Below wx.heap.size wx w') := fun wx hx => find7_spec l ssndT ao cap wx (HL.out.below hx) hll
  have kf := isForm_spec f
  rw [h1] at kf
  rw [hCi] at K1
  have KS : Hid (∀ wx, Calls Tryz.prog 56 #[.string f, .string c.body] wx fun e w' => e = .returned (.tuple #[.agg (sndC7 (comR c.body (kB f))), .int .i64 (comE c.body (kB f))]) ∧ Below wx.heap.size wx w') := fun wx => soundOf7_spec f c.body hbz wx
  obtain ⟨b, off, rfl, hcl⟩ := hl.at i c hc
  have HCL : Hid (∀ wx, Below w.heap.size w wx → wx.cell? ⟨b, off + i * 3, none⟩ = some (.string c.id) ∧ wx.cell? ⟨b, off + i * 3 + 1, none⟩ = some (.string c.body) ∧ wx.cell? ⟨b, off + i * 3 + 2, none⟩ = some (.int .i64 c.pad)) := hcl
  clear hl hcl hlk hCi hcm hbs hc hbz g2 g3 HL
  generalize (findN l commT).2 = C2 at *
  generalize (findN l ssndT).1 = S1 at *
  generalize (findN l ssndT).2 = S2 at *
  generalize comR c.body (kB f) = X at *
  generalize comE c.body (kB f) = E at *
  go_enter Tryz.func28, Tryz.ntmps28
  go_wp2_with fail
  refine (K1.out _ HJ0.out.below).mono ?_
  rintro e w1 ⟨rfl, hB1⟩
  have HJ1 : Hid (Jl7 w f l (some ⟨b, off, none⟩) cap w1) := HJ0.out.next hB1
  clear K1 hB1 HJ0
  have a0 := HJ1.out.arg.c 0 _ rfl
  have a1 := HJ1.out.arg.c 1 _ rfl
  go_wp2_with fail
  refine (K2.out _ HJ1.out.below).mono ?_
  rintro e w2 ⟨rfl, hB2⟩
  have HJ2 : Hid (Jl7 w f l (some ⟨b, off, none⟩) cap w2) := HJ1.out.next hB2
  clear K2 hB2 HJ1 a0 a1
  have a0 := HJ2.out.arg.c 0 _ rfl
  have a1 := HJ2.out.arg.c 1 _ rfl
  go_wp2_with fail
  refine (kf _).mono ?_
  rintro e w3 ⟨rfl, rfl⟩
  clear kf
  go_upto_region 5 with fail
  have HSS : Hid (∀ wx, Below w3.heap.size w3 wx → wx.cell? ⟨w.heap.size, 0, none⟩ = some (.string f) ∧ wx.cell? ⟨w.heap.size, 1, none⟩ = some (.slice (some ⟨b, off, none⟩) l.length cap) ∧ wx.cell? ⟨b, off + i * 3 + 1, none⟩ = some (.string c.body)) := fun wx hx => ⟨(HJ2.out.next hx).arg.c 0 _ rfl, (HJ2.out.next hx).arg.c 1 _ rfl, (HCL.out wx (HJ2.out.next hx).below).2.1⟩
  go_cut [8, 9] from 35 to 46 (fun v u wx => ∃ Q, v = Value.pointer (some ⟨Q, 0, none⟩) ∧ u = Value.int .i64 E ∧ Jk7 w f l (some ⟨b, off, none⟩) cap Q X wx)
  case first =>
    refine wp_region_held_drew (S := fun wx => Below w3.heap.size w3 wx) (by kernel_rfl) (belD _) (fun hS => ?_)
    refine wpAnyH_take (i := 0) (v := .pointer (some ⟨w.heap.size, 0, none⟩)) rfl (by kernel_rfl) (by kernel_rfl) (by kernel_rfl) (fun _ _ _ h => h) (Or.inl ⟨by rfl, fun w hSw => by obtain ⟨s1, s2, s3⟩ := HSS.out _ hSw; go_simp⟩) hS ?_
    simp only [Act.put, List.getElem_toArray, List.getElem_cons_succ, List.getElem_cons_zero, List.setIfInBounds_toArray, List.set_cons_zero, List.set_cons_succ]
    refine wpAnyH_take (i := 1) (v := .string f) rfl (by kernel_rfl) (by kernel_rfl) (by kernel_rfl) (fun _ _ _ h => h) (Or.inl ⟨by rfl, fun w hSw => by obtain ⟨s1, s2, s3⟩ := HSS.out _ hSw; go_simp⟩) hS ?_
    simp only [Act.put, List.getElem_toArray, List.getElem_cons_succ, List.getElem_cons_zero, List.setIfInBounds_toArray, List.set_cons_zero, List.set_cons_succ]
    refine wpAnyH_take (i := 2) (v := .pointer (some ⟨w.heap.size, 1, none⟩)) rfl (by kernel_rfl) (by kernel_rfl) (by kernel_rfl) (fun _ _ _ h => h) (Or.inl ⟨by rfl, fun w hSw => by obtain ⟨s1, s2, s3⟩ := HSS.out _ hSw; go_simp⟩) hS ?_
    simp only [Act.put, List.getElem_toArray, List.getElem_cons_succ, List.getElem_cons_zero, List.setIfInBounds_toArray, List.set_cons_zero, List.set_cons_succ]
    refine wpAnyH_take (i := 3) (v := .slice (some ⟨b, off, none⟩) l.length cap) rfl (by kernel_rfl) (by kernel_rfl) (by kernel_rfl) (fun _ _ _ h => h) (Or.inl ⟨by rfl, fun w hSw => by obtain ⟨s1, s2, s3⟩ := HSS.out _ hSw; go_simp⟩) hS ?_
    simp only [Act.put, List.getElem_toArray, List.getElem_cons_succ, List.getElem_cons_zero, List.setIfInBounds_toArray, List.set_cons_zero, List.set_cons_succ]
    refine wpAnyH_take (i := 4) (v := .int .i64 (i : Int)) rfl (by kernel_rfl) (by kernel_rfl) (by kernel_rfl) (fun _ _ _ h => h) (Or.inl ⟨by rfl, fun w hSw => by obtain ⟨s1, s2, s3⟩ := HSS.out _ hSw; go_simp⟩) hS ?_
    simp only [Act.put, List.getElem_toArray, List.getElem_cons_succ, List.getElem_cons_zero, List.setIfInBounds_toArray, List.set_cons_zero, List.set_cons_succ]
    refine wpAnyH_take (i := 5) (v := .pointer (some ⟨b, off + i * 3, none⟩)) rfl (by kernel_rfl) (by kernel_rfl) (by kernel_rfl) (fun _ _ _ h => h) (Or.inl ⟨by rfl, fun w hSw => by obtain ⟨s1, s2, s3⟩ := HSS.out _ hSw; go_simp⟩) hS ?_
    simp only [Act.put, List.getElem_toArray, List.getElem_cons_succ, List.getElem_cons_zero, List.setIfInBounds_toArray, List.set_cons_zero, List.set_cons_succ]
    refine wpAnyH_take (i := 6) (v := .pointer (some ⟨b, off + i * 3 + 1, none⟩)) rfl (by kernel_rfl) (by kernel_rfl) (by kernel_rfl) (fun _ _ _ h => h) (Or.inl ⟨by rfl, fun w hSw => by obtain ⟨s1, s2, s3⟩ := HSS.out _ hSw; go_simp⟩) hS ?_
    simp only [Act.put, List.getElem_toArray, List.getElem_cons_succ, List.getElem_cons_zero, List.setIfInBounds_toArray, List.set_cons_zero, List.set_cons_succ]
    refine wpAnyH_take (i := 7) (v := .string c.body) rfl (by kernel_rfl) (by kernel_rfl) (by kernel_rfl) (fun _ _ _ h => h) (Or.inl ⟨by rfl, fun w hSw => by obtain ⟨s1, s2, s3⟩ := HSS.out _ hSw; go_simp⟩) hS ?_
    simp only [Act.put, List.getElem_toArray, List.getElem_cons_succ, List.getElem_cons_zero, List.setIfInBounds_toArray, List.set_cons_zero, List.set_cons_succ]
    refine wpAnyH_ready (rs := [8, 12]) (by kernel_rfl) (by simp) ?_
    refine AllReadyH.cons rfl (fun K hK => ?_) (AllReadyH.cons rfl (fun K hK => ?_) AllReadyH.nil)
    · go_simp
      refine (KS.out _).mono ?_
      rintro e w5 ⟨rfl, hB5⟩
      have HJ5 : Hid (Jl7 w f l (some ⟨b, off, none⟩) cap w5 ∧ Below w3.heap.size w3 w5) := ⟨(HJ2.out.next (belD _)).next hB5, below_on (belD _) hB5⟩
      refine hK.out _ _ HJ5.out.2 (fun hS5 => ?_)
      clear hK K
      refine wpAnyH_take (i := 9) (v := .tuple #[.agg #[.int .i64 X.rate, .int .i64 X.ch, .int .i64 X.wd, .int .i64 X.smp, .bool X.lit], .int .i64 E]) rfl (by kernel_rfl) (by kernel_rfl) (by kernel_rfl) (fun _ _ _ h => h) (Or.inl ⟨by rfl, fun w hSw => by obtain ⟨s1, s2, s3⟩ := HSS.out _ hSw; go_simp⟩) hS5 ?_
      simp only [Act.put, List.getElem_toArray, List.getElem_cons_succ, List.getElem_cons_zero, List.setIfInBounds_toArray, List.set_cons_zero, List.set_cons_succ]
      refine wpAnyH_take (i := 10) (v := .agg #[.int .i64 X.rate, .int .i64 X.ch, .int .i64 X.wd, .int .i64 X.smp, .bool X.lit]) rfl (by kernel_rfl) (by kernel_rfl) (by kernel_rfl) (fun _ _ _ h => h) (Or.inl ⟨by rfl, fun w hSw => by obtain ⟨s1, s2, s3⟩ := HSS.out _ hSw; go_simp⟩) hS5 ?_
      simp only [Act.put, List.getElem_toArray, List.getElem_cons_succ, List.getElem_cons_zero, List.setIfInBounds_toArray, List.set_cons_zero, List.set_cons_succ]
      refine wpAnyH_take (i := 11) (v := .int .i64 E) rfl (by kernel_rfl) (by kernel_rfl) (by kernel_rfl) (fun _ _ _ h => h) (Or.inl ⟨by rfl, fun w hSw => by obtain ⟨s1, s2, s3⟩ := HSS.out _ hSw; go_simp⟩) hS5 ?_
      simp only [Act.put, List.getElem_toArray, List.getElem_cons_succ, List.getElem_cons_zero, List.setIfInBounds_toArray, List.set_cons_zero, List.set_cons_succ]
      refine wpAnyH_ready (rs := [12]) (by kernel_rfl) (by simp) ?_
      refine AllReadyH.cons rfl (fun K hK => ?_) AllReadyH.nil
      go_simp
      refine hK.out _ _ (below_on HJ5.out.2 (belA _ _)) (fun hS6 => ?_)
      clear hK K
      refine wpAnyH_ready (rs := [13]) (by kernel_rfl) (by simp) ?_
      refine AllReadyH.cons rfl (fun K hK => ?_) AllReadyH.nil
      go_simp
      refine hK.out _ _ (below_on HJ5.out.2 (belA _ _)) (fun hS7 => ?_)
      clear hK K
      refine wpAnyH_take (i := 14) (v := .int .i64 E) rfl (by kernel_rfl) (by kernel_rfl) (by kernel_rfl) (fun _ _ _ h => h) (Or.inl ⟨by rfl, fun w hSw => by obtain ⟨s1, s2, s3⟩ := HSS.out _ hSw; go_simp⟩) hS7 ?_
      simp only [Act.put, List.getElem_toArray, List.getElem_cons_succ, List.getElem_cons_zero, List.setIfInBounds_toArray, List.set_cons_zero, List.set_cons_succ]
      refine wpAnyH_done (by kernel_rfl) ?_ _
      go_wp2_with fail
      go_meet
      exact ⟨_, rfl, rfl, Jk7.new HJ5.out.1 X⟩
    · go_simp
      have HA : Hid (Jl7 w f l (some ⟨b, off, none⟩) cap (w3.alloc (.cells zeroS7 68)).drew ∧ Below w3.heap.size w3 (w3.alloc (.cells zeroS7 68)).drew ∧ Box w3.heap.size zeroS7 68 (w3.alloc (.cells zeroS7 68)).drew) := ⟨(HJ2.out.next (belA _ _)).next (belD _), below_on (belA _ _) (belD _), (Box.new _ _ _).next (belD _)⟩
      refine hK.out _ _ HA.out.2.1 (fun hS5 => ?_)
      clear hK K
      refine wpAnyH_ready (rs := [8]) (by kernel_rfl) (by simp) ?_
      refine AllReadyH.cons rfl (fun K hK => ?_) AllReadyH.nil
      go_simp
      refine (KS.out _).mono ?_
      rintro e w5 ⟨rfl, hB5⟩
      have HJ5 : Hid (Jl7 w f l (some ⟨b, off, none⟩) cap w5 ∧ Below w3.heap.size w3 w5 ∧ Box w3.heap.size zeroS7 68 w5 ∧ w.heap.size + 1 < w3.heap.size) := ⟨HA.out.1.next hB5, below_on HA.out.2.1 hB5, HA.out.2.2.next hB5, HJ2.out.res.lt⟩
      refine hK.out _ _ HJ5.out.2.1 (fun hS6 => ?_)
      clear hK K HA hB5
      generalize hQ : w3.heap.size = Q at *
      refine wpAnyH_take (i := 9) (v := .tuple #[.agg #[.int .i64 X.rate, .int .i64 X.ch, .int .i64 X.wd, .int .i64 X.smp, .bool X.lit], .int .i64 E]) rfl (by kernel_rfl) (by kernel_rfl) (by kernel_rfl) (fun _ _ _ h => h) (Or.inl ⟨by rfl, fun w hSw => by obtain ⟨s1, s2, s3⟩ := HSS.out _ hSw; go_simp⟩) hS6 ?_
      simp only [Act.put, List.getElem_toArray, List.getElem_cons_succ, List.getElem_cons_zero, List.setIfInBounds_toArray, List.set_cons_zero, List.set_cons_succ]
      refine wpAnyH_take (i := 10) (v := .agg #[.int .i64 X.rate, .int .i64 X.ch, .int .i64 X.wd, .int .i64 X.smp, .bool X.lit]) rfl (by kernel_rfl) (by kernel_rfl) (by kernel_rfl) (fun _ _ _ h => h) (Or.inl ⟨by rfl, fun w hSw => by obtain ⟨s1, s2, s3⟩ := HSS.out _ hSw; go_simp⟩) hS6 ?_
      simp only [Act.put, List.getElem_toArray, List.getElem_cons_succ, List.getElem_cons_zero, List.setIfInBounds_toArray, List.set_cons_zero, List.set_cons_succ]
      refine wpAnyH_take (i := 11) (v := .int .i64 E) rfl (by kernel_rfl) (by kernel_rfl) (by kernel_rfl) (fun _ _ _ h => h) (Or.inl ⟨by rfl, fun w hSw => by obtain ⟨s1, s2, s3⟩ := HSS.out _ hSw; go_simp⟩) hS6 ?_
      simp only [Act.put, List.getElem_toArray, List.getElem_cons_succ, List.getElem_cons_zero, List.setIfInBounds_toArray, List.set_cons_zero, List.set_cons_succ]
      have r0 := HJ5.out.2.2.1.c 0 _ rfl
      have z0 := HJ5.out.2.2.1.z 0
      have r1 := HJ5.out.2.2.1.c 1 _ rfl
      have z1 := HJ5.out.2.2.1.z 1
      have r2 := HJ5.out.2.2.1.c 2 _ rfl
      have z2 := HJ5.out.2.2.1.z 2
      have r3 := HJ5.out.2.2.1.c 3 _ rfl
      have z3 := HJ5.out.2.2.1.z 3
      have r4 := HJ5.out.2.2.1.c 4 _ rfl
      have z4 := HJ5.out.2.2.1.z 4
      have HJ6 : Hid (Jk7 w f l (some ⟨b, off, none⟩) cap Q X (((((w5.setCell ⟨Q, 0, none⟩ (.int .i64 X.rate)).setCell ⟨Q, 1, none⟩ (.int .i64 X.ch)).setCell ⟨Q, 2, none⟩ (.int .i64 X.wd)).setCell ⟨Q, 3, none⟩ (.int .i64 X.smp)).setCell ⟨Q, 4, none⟩ (.bool X.lit)) ∧ Below Q w3 (((((w5.setCell ⟨Q, 0, none⟩ (.int .i64 X.rate)).setCell ⟨Q, 1, none⟩ (.int .i64 X.ch)).setCell ⟨Q, 2, none⟩ (.int .i64 X.wd)).setCell ⟨Q, 3, none⟩ (.int .i64 X.smp)).setCell ⟨Q, 4, none⟩ (.bool X.lit))) := ⟨Jk7.zero HJ5.out.1 HJ5.out.2.2.1 HJ5.out.2.2.2 X, ((((HJ5.out.2.1.setCell (Nat.le_refl _) _).setCell (Nat.le_refl _) _).setCell (Nat.le_refl _) _).setCell (Nat.le_refl _) _).setCell (Nat.le_refl _) _⟩
      refine wpAnyH_ready (rs := [13]) (by kernel_rfl) (by simp) ?_
      refine AllReadyH.cons rfl (fun K hK => ?_) AllReadyH.nil
      go_simp
      refine hK.out _ _ HJ6.out.2 (fun hS7 => ?_)
      clear hK K
      refine wpAnyH_take (i := 14) (v := .int .i64 E) rfl (by kernel_rfl) (by kernel_rfl) (by kernel_rfl) (fun _ _ _ h => h) (Or.inl ⟨by rfl, fun w hSw => by obtain ⟨s1, s2, s3⟩ := HSS.out _ hSw; go_simp⟩) hS7 ?_
      simp only [Act.put, List.getElem_toArray, List.getElem_cons_succ, List.getElem_cons_zero, List.setIfInBounds_toArray, List.set_cons_zero, List.set_cons_succ]
      refine wpAnyH_done (by kernel_rfl) ?_ _
      go_wp2_with fail
      go_meet
      exact ⟨Q, rfl, rfl, HJ6.out.1⟩
  case rest =>
    obtain ⟨Q, rfl, rfl, hj⟩ := hcut
    have HK : Hid (Jk7 w f l (some ⟨b, off, none⟩) cap Q X wc) := hj
    have q0 := HK.out.bx.c 0 _ rfl
    have q1 := HK.out.bx.c 1 _ rfl
    have q2 := HK.out.bx.c 2 _ rfl
    have q3 := HK.out.bx.c 3 _ rfl
    have q4 := HK.out.bx.c 4 _ rfl
    clear hj HJ2 HSS HCL KS a0 a1
    have r0 := HK.out.l.res.c 0 _ rfl
    have z0 := HK.out.l.res.z 0
    have r1 := HK.out.l.res.c 1 _ rfl
    have z1 := HK.out.l.res.z 1
    have r2 := HK.out.l.res.c 2 _ rfl
    have z2 := HK.out.l.res.z 2
    have r3 := HK.out.l.res.c 3 _ rfl
    have z3 := HK.out.l.res.z 3
    have r4 := HK.out.l.res.c 4 _ rfl
    have z4 := HK.out.l.res.z 4
    have r5 := HK.out.l.res.c 5 _ rfl
    have z5 := HK.out.l.res.z 5
    have HFIN : Hid (Box (w.heap.size + 1) (filC X S1) 70 ((((((wc.setCell ⟨w.heap.size + 1, 0, none⟩ (.int .i64 X.rate)).setCell ⟨w.heap.size + 1, 1, none⟩ (.int .i64 X.ch)).setCell ⟨w.heap.size + 1, 2, none⟩ (.int .i64 X.wd)).setCell ⟨w.heap.size + 1, 3, none⟩ (.int .i64 X.smp)).setCell ⟨w.heap.size + 1, 4, none⟩ (.bool X.lit)).setCell ⟨w.heap.size + 1, 5, none⟩ (.int .i64 S1)) ∧ Below w.heap.size w ((((((wc.setCell ⟨w.heap.size + 1, 0, none⟩ (.int .i64 X.rate)).setCell ⟨w.heap.size + 1, 1, none⟩ (.int .i64 X.ch)).setCell ⟨w.heap.size + 1, 2, none⟩ (.int .i64 X.wd)).setCell ⟨w.heap.size + 1, 3, none⟩ (.int .i64 X.smp)).setCell ⟨w.heap.size + 1, 4, none⟩ (.bool X.lit)).setCell ⟨w.heap.size + 1, 5, none⟩ (.int .i64 S1))) := ⟨((((((HK.out.l.res.set 0 (.int .i64 X.rate)).set 1 (.int .i64 X.ch)).set 2 (.int .i64 X.wd)).set 3 (.int .i64 X.smp)).set 4 (.bool X.lit)).set 5 (.int .i64 S1)), ((((((HK.out.l.below.setCell (Nat.le_succ _) _).setCell (Nat.le_succ _) _).setCell (Nat.le_succ _) _).setCell (Nat.le_succ _) _).setCell (Nat.le_succ _) _).setCell (Nat.le_succ _) _)⟩
    go_wp2_with fail
    exact bodyPost_ret (v := .tuple #[.agg (filC X S1), .int .i64 (E)]) (fil_ret7 HFIN.out.1 rfl _ _ rfl rfl) rfl ⟨by rw [HE.out, HXX.out, HI.out], HFIN.out.2⟩

theorem look7_spec (f : ByteArray) (l : List Chk) (ao : Option Addr) (cap : Nat) (w : World) (hl : ChksAt w ao l) (hll : l.length ≤ 9000000000000000) (hbs : ∀ c ∈ l, c.body.size ≤ 140737488351232) :
    Calls Tryz.prog 28 #[.agg #[.string f, .slice ao l.length cap]] w fun e w' => e = .returned (.tuple #[.agg (filC (lkX f l) (lkI f l)), .int .i64 (lkE f l)]) ∧ Below w.heap.size w w' := by
  cases h1 : formB f
  · exact look7_form f l ao cap w hl hll h1
  · cases h2 : (findN l commT).2 != 1
    · cases h3 : decide (1 < (findN l ssndT).2)
      · exact look7_yes f l ao cap w hl hll (by unfold lkB; rw [h1, show ((findN l commT).2 == 1) = true from by simpa using h2, h3]; rfl) hbs
      · exact look7_ssnd f l ao cap w hl hll h1 h2 h3
    · exact look7_comm f l ao cap w hl hll h1 h2

end Go.Proofs.YtaepgjheknkojaaGreat
