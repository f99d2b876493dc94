/- Own text: the walks of the draft's lay and close, and of the deferred call (aiff). -/
import Derived.Test.YtaepgjheknkojaaQ7fill
import Derived.Test.YtaepgjheknkojaaG38x
import Derived.Defers
import Derived.Deep.RegionHeld3
namespace Go.Proofs.Ytaepgjheknkojaa
open Go.RowKit
set_option linter.unusedSimpArgs false
set_option linter.unusedVariables false

abbrev dftC (f : ByteArray) (b : Bool) (s : ByteArray) : Array Value := #[.string f, .bool b, .string s]
def dftL (f : ByteArray) (L : List Chk) : Array Value := if roomB L then dftC f (layE L == 0) (layT L true) else dftC f false ⟨#[]⟩
theorem sizeL_room (L : List Chk) (h : roomB L = true) : sizeL L ≤ 9 * L.length + 67108864 := by
  have h1 : ∀ L : List Chk, sizeL L ≤ 9 * L.length + bodL L := by
    intro L
    induction L with
    | nil => exact Nat.zero_le _
    | cons c t ih =>
      have e : sizeL (c :: t) = sizeC c + sizeL t := by unfold sizeL; simp
      have e2 : bodL (c :: t) = c.body.size + bodL t := by unfold bodL; simp
      have : sizeC c ≤ 9 + c.body.size := by unfold sizeC; split <;> omega
      rw [e, e2, List.length_cons]
      omega
  have := h1 L
  have h2 := of_decide_eq_true h
  omega
set_option maxRecDepth 20000 in
set_option maxHeartbeats 3200000 in
theorem lay7_spec (b : Nat) (f : ByteArray) (L : List Chk) (ao : Option Addr) (cap : Nat) (w : World) (hb : Box b (dftC f false ⟨#[]⟩) 41 w) (hl : ChksAt w ao L) (hf : FairL L) (hll : L.length ≤ 3500000000000) :
    Calls Try.prog 20 #[.pointer (some ⟨b, 0, none⟩), .slice ao L.length cap] w fun e w' => e = .returned (.tuple #[]) ∧ Aside (some ⟨b, 0, none⟩) w w' ∧ Box b (dftL f L) 41 w' := by
  have kr := hasRoom_spec L ao cap w hl (by omega) fun c hc => by have := (hf c hc).2; omega
  have HL : Hid (ChksAt w ao L ∧ FairL L) := ⟨hl, hf⟩
  have HB0 : Hid (Box b (dftC f false ⟨#[]⟩) 41 w) := hb
  clear hl hf hb
  cases hr : roomB L
  · have HD : Hid (dftL f L = (dftC f false ⟨#[]⟩)) := by show _ = _; unfold dftL; rw [hr]; rfl
    rw [hr] at kr
    go_enter Try.func20, Try.ntmps20
    go_wp2_with fail
    refine kr.mono ?_
    rintro e w2 ⟨rfl, hB2⟩
    have H2 : Hid (Box b (dftC f false ⟨#[]⟩) 41 w2 ∧ Below w.heap.size w w2) := ⟨HB0.out.next hB2, hB2⟩
    clear kr hB2
    go_wp2_with fail
    refine bodyPost_ret (results_none rfl _ _ _) rfl ?_
    exact ⟨rfl, Aside.of H2.out.2, by rw [HD.out]; exact H2.out.1⟩
  · have HD : Hid (dftL f L = dftC f (layE L == 0) (layT L true)) := by show _ = _; unfold dftL; rw [hr]; rfl
    have hsz := sizeL_room L hr
    rw [hr] at kr
    clear hr
    go_enter Try.func20, Try.ntmps20
    go_wp2_with fail
    refine kr.mono ?_
    rintro e w2 ⟨rfl, hB2⟩
    have kl := Lay_spec L true ao cap w2 (HL.out.1.below hB2) HL.out.2 (by omega) (by omega)
    have H2 : Hid (Box b (dftC f false ⟨#[]⟩) 41 w2 ∧ Below w.heap.size w w2) := ⟨HB0.out.next hB2, hB2⟩
    clear kr hB2 hsz HL
    generalize layT L true = LT at *
    generalize layE L = LE at *
    go_wp2_with fail
    refine kl.mono ?_
    rintro e w3 ⟨rfl, hB3⟩
    have H3 : Hid (Box b (dftC f false ⟨#[]⟩) 41 w3 ∧ Below w.heap.size w w3) := ⟨H2.out.1.next hB3, below_on H2.out.2 hB3⟩
    clear kl hB3 H2
    have r1 := H3.out.1.c 1 _ rfl
    have r2 := H3.out.1.c 2 _ rfl
    have z1 := H3.out.1.z 1
    have z2 := H3.out.1.z 2
    have H4 : Hid (Box b (dftC f (LE == 0) LT) 41 ((w3.setCell ⟨b, 2, none⟩ (.string LT)).setCell ⟨b, 1, none⟩ (.bool (LE == 0))) ∧ Aside (some ⟨b, 0, none⟩) w ((w3.setCell ⟨b, 2, none⟩ (.string LT)).setCell ⟨b, 1, none⟩ (.bool (LE == 0)))) := ⟨(H3.out.1.set 2 (.string LT)).set 1 (.bool (LE == 0)), ((Aside.of H3.out.2).set 2 _).set 1 _⟩
    go_wp2_with fail
    first
      | go_end0
      | refine bodyPost_ret (results_none rfl _ _ _) rfl ?_
    exact ⟨rfl, H4.out.2, by rw [HD.out]; exact H4.out.1⟩
def clB (b : Bool) (s : ByteArray) : Bool := b && !decide (67108864 < 12 + (s.size : Int))
def clE (b : Bool) (s : ByteArray) : Int := if clB b s then 0 else 60
def clT (f : ByteArray) (b : Bool) (s : ByteArray) : ByteArray := if clB b s then headT7 f (12 + (s.size : Int)) ++ s else ⟨#[]⟩
theorem headT7_size (f : ByteArray) (n : Int) : (headT7 f n).size ≤ 12 + f.size := by
  unfold headT7
  rw [ByteArray.size_append, ByteArray.size_append]
  have := beT_size (n - 8) 4
  have e : formT.size = 4 := rfl
  omega

set_option maxRecDepth 20000 in
set_option maxHeartbeats 3200000 in
theorem close7_no (b : Nat) (f : ByteArray) (s : ByteArray) (w : World) (hb : Box b (dftC f false s) 41 w) (hs : s.size ≤ 140737488355328) :
    Calls Try.prog 14 #[.pointer (some ⟨b, 0, none⟩)] w fun e w' => e = .returned (.tuple #[.string ⟨#[]⟩, .int .i64 60]) ∧ Below w.heap.size w w' := by
  have r0 := hb.c 0 _ rfl
  have r1 := hb.c 1 _ rfl
  have r2 := hb.c 2 _ rfl
  clear hb
  go_enter Try.func14, Try.ntmps14
  go_wp2_with fail
  go_ret2
  exact ⟨rfl, Below.refl _ _⟩
set_option maxRecDepth 20000 in
set_option maxHeartbeats 3200000 in
theorem close7_large (b : Nat) (f : ByteArray) (s : ByteArray) (w : World) (hb : Box b (dftC f true s) 41 w) (hs : s.size ≤ 140737488355328) (h : 67108864 < 12 + (s.size : Int)) :
    Calls Try.prog 14 #[.pointer (some ⟨b, 0, none⟩)] w fun e w' => e = .returned (.tuple #[.string ⟨#[]⟩, .int .i64 60]) ∧ Below w.heap.size w w' := by
  have r0 := hb.c 0 _ rfl
  have r1 := hb.c 1 _ rfl
  have r2 := hb.c 2 _ rfl
  have hd : decide ((67108864 : Int) < 12 + (s.size : Int)) = true := decide_eq_true h
  clear hb
  go_enter Try.func14, Try.ntmps14
  go_wp2_with fail
  go_ret2
  exact ⟨rfl, Below.refl _ _⟩
set_option maxRecDepth 20000 in
set_option maxHeartbeats 3200000 in
theorem close7_yes (b : Nat) (f : ByteArray) (s : ByteArray) (w : World) (hb : Box b (dftC f true s) 41 w) (hf : f.size ≤ 140737488355328) (h : ¬ (67108864 < 12 + (s.size : Int))) :
    Calls Try.prog 14 #[.pointer (some ⟨b, 0, none⟩)] w fun e w' => e = .returned (.tuple #[.string (headT7 f (12 + (s.size : Int)) ++ s), .int .i64 0]) ∧ Below w.heap.size w w' := by
  have r0 := hb.c 0 _ rfl
  have r1 := hb.c 1 _ rfl
  have r2 := hb.c 2 _ rfl
  have HBX : Hid (Box b (dftC f true s) 41 w) := hb
  have hd : decide ((67108864 : Int) < 12 + (s.size : Int)) = false := decide_eq_false h
  have hle : s.size ≤ 67108852 := by omega
  have KH : Hid (∀ wx, Hid (Box b (dftC f true s) 41 wx ∧ Below w.heap.size w wx) → Calls Try.prog 31 #[.string f, .int .i64 (12 + (s.size : Int))] wx fun e w' => e = .returned (.string (headT7 f (12 + (s.size : Int)))) ∧ Hid (Box b (dftC f true s) 41 w' ∧ Below w.heap.size w w')) := fun wx hx => (headOf_spec f (12 + (s.size : Int)) hf (by omega) (by omega) wx).mono fun e w' q => ⟨q.1, hx.out.1.next q.2, below_on hx.out.2 q.2⟩
  have hsz : ¬ (9223372036854775807 < (headT7 f (12 + (s.size : Int))).size + s.size) := by
    have := headT7_size f (12 + (s.size : Int))
    omega
  have HSS : Hid (∀ wx, (fun wx => Box b (dftC f true s) 41 wx) wx → wx.cell? ⟨b, 0, none⟩ = some (.string f) ∧ wx.cell? ⟨b, 1, none⟩ = some (.bool true) ∧ wx.cell? ⟨b, 2, none⟩ = some (.string s)) := fun wx hx => ⟨hx.c 0 _ rfl, hx.c 1 _ rfl, hx.c 2 _ rfl⟩
  have HD : Hid (Box b (dftC f true s) 41 w.drew ∧ Below w.heap.size w w.drew) := ⟨hb.next (belD _), belD _⟩
  generalize headT7 f (12 + (s.size : Int)) = HT at *
  clear hb h hf
  go_enter Try.func14, Try.ntmps14
  go_wp2_with fail
  clear r0 r1 r2
  refine wp_region_held_drew (S := fun wx => Box b (dftC f true s) 41 wx) (by kernel_rfl) HD.out.1 (fun hS => ?_)
  refine wpAnyH_take (i := 0) (v := .pointer (some ⟨b, 0, none⟩)) rfl (by kernel_rfl) (by kernel_rfl) (by kernel_rfl) (fun _ _ _ h => h) (Or.inl ⟨by rfl, fun w hSw => by obtain ⟨s0, s1, s2⟩ := HSS.out _ hSw; go_simp⟩) hS ?_
  simp only [Act.put, List.getElem_toArray, List.getElem_cons_succ, List.getElem_cons_zero, List.setIfInBounds_toArray, List.set_cons_zero, List.set_cons_succ]
  refine wpAnyH_take (i := 1) (v := .pointer (some ⟨b, 0, none⟩)) rfl (by kernel_rfl) (by kernel_rfl) (by kernel_rfl) (fun _ _ _ h => h) (Or.inl ⟨by rfl, fun w hSw => by obtain ⟨s0, s1, s2⟩ := HSS.out _ hSw; go_simp⟩) hS ?_
  simp only [Act.put, List.getElem_toArray, List.getElem_cons_succ, List.getElem_cons_zero, List.setIfInBounds_toArray, List.set_cons_zero, List.set_cons_succ]
  refine wpAnyH_take (i := 2) (v := .pointer (some ⟨b, 0, none⟩)) rfl (by kernel_rfl) (by kernel_rfl) (by kernel_rfl) (fun _ _ _ h => h) (Or.inl ⟨by rfl, fun w hSw => by obtain ⟨s0, s1, s2⟩ := HSS.out _ hSw; go_simp⟩) hS ?_
  simp only [Act.put, List.getElem_toArray, List.getElem_cons_succ, List.getElem_cons_zero, List.setIfInBounds_toArray, List.set_cons_zero, List.set_cons_succ]
  refine wpAnyH_take (i := 3) (v := .string f) rfl (by kernel_rfl) (by kernel_rfl) (by kernel_rfl) (fun _ _ _ h => h) (Or.inl ⟨by rfl, fun w hSw => by obtain ⟨s0, s1, s2⟩ := HSS.out _ hSw; go_simp⟩) hS ?_
  simp only [Act.put, List.getElem_toArray, List.getElem_cons_succ, List.getElem_cons_zero, List.setIfInBounds_toArray, List.set_cons_zero, List.set_cons_succ]
  refine wpAnyH_take (i := 4) (v := .int .i64 (12 + (s.size : Int))) rfl (by kernel_rfl) (by kernel_rfl) (by kernel_rfl) (fun _ _ _ h => h) (Or.inl ⟨by rfl, fun w hSw => by obtain ⟨s0, s1, s2⟩ := HSS.out _ hSw; go_simp⟩) hS ?_
  simp only [Act.put, List.getElem_toArray, List.getElem_cons_succ, List.getElem_cons_zero, List.setIfInBounds_toArray, List.set_cons_zero, List.set_cons_succ]
  refine wpAnyH_take (i := 6) (v := .pointer (some ⟨b, 0, none⟩)) rfl (by kernel_rfl) (by kernel_rfl) (by kernel_rfl) (fun _ _ _ h => h) (Or.inl ⟨by rfl, fun w hSw => by obtain ⟨s0, s1, s2⟩ := HSS.out _ hSw; go_simp⟩) hS ?_
  simp only [Act.put, List.getElem_toArray, List.getElem_cons_succ, List.getElem_cons_zero, List.setIfInBounds_toArray, List.set_cons_zero, List.set_cons_succ]
  refine wpAnyH_take (i := 7) (v := .pointer (some ⟨b, 0, none⟩)) rfl (by kernel_rfl) (by kernel_rfl) (by kernel_rfl) (fun _ _ _ h => h) (Or.inl ⟨by rfl, fun w hSw => by obtain ⟨s0, s1, s2⟩ := HSS.out _ hSw; go_simp⟩) hS ?_
  simp only [Act.put, List.getElem_toArray, List.getElem_cons_succ, List.getElem_cons_zero, List.setIfInBounds_toArray, List.set_cons_zero, List.set_cons_succ]
  refine wpAnyH_take (i := 8) (v := .pointer (some ⟨b, 2, none⟩)) rfl (by kernel_rfl) (by kernel_rfl) (by kernel_rfl) (fun _ _ _ h => h) (Or.inl ⟨by rfl, fun w hSw => by obtain ⟨s0, s1, s2⟩ := HSS.out _ hSw; go_simp⟩) hS ?_
  simp only [Act.put, List.getElem_toArray, List.getElem_cons_succ, List.getElem_cons_zero, List.setIfInBounds_toArray, List.set_cons_zero, List.set_cons_succ]
  refine wpAnyH_take (i := 9) (v := .string s) rfl (by kernel_rfl) (by kernel_rfl) (by kernel_rfl) (fun _ _ _ h => h) (Or.inl ⟨by rfl, fun w hSw => by obtain ⟨s0, s1, s2⟩ := HSS.out _ hSw; go_simp⟩) hS ?_
  simp only [Act.put, List.getElem_toArray, List.getElem_cons_succ, List.getElem_cons_zero, List.setIfInBounds_toArray, List.set_cons_zero, List.set_cons_succ]
  refine wpAnyH_ready (rs := [5]) (by kernel_rfl) (by simp) ?_
  refine AllReadyH.cons rfl (fun K hK => ?_) AllReadyH.nil
  go_simp
  refine (KH.out _ HD).mono ?_
  rintro e w5 ⟨rfl, h5⟩
  refine hK.out _ _ h5.out.1 (fun hS5 => ?_)
  clear hK K
  refine wpAnyH_take (i := 10) (v := .string (HT ++ s)) rfl (by kernel_rfl) (by kernel_rfl) (by kernel_rfl) (fun _ _ _ h => h) (Or.inl ⟨by rfl, fun w hSw => by obtain ⟨s0, s1, s2⟩ := HSS.out _ hSw; go_simp⟩) hS5 ?_
  simp only [Act.put, List.getElem_toArray, List.getElem_cons_succ, List.getElem_cons_zero, List.setIfInBounds_toArray, List.set_cons_zero, List.set_cons_succ]
  refine wpAnyH_take (i := 11) (v := .string (HT ++ s)) rfl (by kernel_rfl) (by kernel_rfl) (by kernel_rfl) (fun _ _ _ h => h) (Or.inl ⟨by rfl, fun w hSw => by obtain ⟨s0, s1, s2⟩ := HSS.out _ hSw; go_simp⟩) hS5 ?_
  simp only [Act.put, List.getElem_toArray, List.getElem_cons_succ, List.getElem_cons_zero, List.setIfInBounds_toArray, List.set_cons_zero, List.set_cons_succ]
  refine wpAnyH_take (i := 12) (v := .int .i64 0) rfl (by kernel_rfl) (by kernel_rfl) (by kernel_rfl) (fun _ _ _ h => h) (Or.inl ⟨by rfl, fun w hSw => by obtain ⟨s0, s1, s2⟩ := HSS.out _ hSw; go_simp⟩) hS5 ?_
  simp only [Act.put, List.getElem_toArray, List.getElem_cons_succ, List.getElem_cons_zero, List.setIfInBounds_toArray, List.set_cons_zero, List.set_cons_succ]
  refine wpAnyH_done (by kernel_rfl) ?_ _
  go_wp2_with fail
  go_ret2
  exact ⟨rfl, h5.out.2⟩
theorem close7_spec (b : Nat) (f : ByteArray) (bl : Bool) (s : ByteArray) (w : World) (hb : Box b (dftC f bl s) 41 w) (hf : f.size ≤ 140737488355328) (hs : s.size ≤ 140737488355328) :
    Calls Try.prog 14 #[.pointer (some ⟨b, 0, none⟩)] w fun e w' => e = .returned (.tuple #[.string (clT f bl s), .int .i64 (clE bl s)]) ∧ Below w.heap.size w w' := by
  unfold clT clE clB
  cases bl
  · exact close7_no b f s w hb hs
  · by_cases h : 67108864 < 12 + (s.size : Int)
    · rw [decide_eq_true h]
      exact close7_large b f s w hb hs h
    · rw [decide_eq_false h]
      exact close7_yes b f s w hb hf h
/-- Build's boxes: the samples', the skeleton's, the answers', the draft's. -/
structure Jb7 (w0 : World) (dp da : Array Value) (en : Int) (Q : Nat) (dd : Array Value) (w : World) : Prop where
  pb : Box w0.heap.size dp 24 w
  ab : Box (w0.heap.size + 1) da 27 w
  sb : Box (w0.heap.size + 2) #[.string ⟨#[]⟩] 9 w
  eb : Box (w0.heap.size + 3) #[.int .i64 en] 28 w
  db : Box Q dd 41 w
  lo : w0.heap.size + 3 < Q
  below : Below w0.heap.size w0 w
section
variable {w0 w w1 : World} {dp da dd : Array Value} {en : Int} {Q : Nat}
theorem Jb7.next (h : Jb7 w0 dp da en Q dd w) (hB : Below w.heap.size w w1) : Jb7 w0 dp da en Q dd w1 := ⟨h.pb.next hB, h.ab.next hB, h.sb.next hB, h.eb.next hB, h.db.next hB, h.lo, below_on h.below hB⟩
theorem Jb7.setE (h : Jb7 w0 dp da en Q dd w) (n : Int) : Jb7 w0 dp da n Q dd (w.setCell ⟨w0.heap.size + 3, 0, none⟩ (.int .i64 n)) := by
  have hl := h.lo
  exact ⟨h.pb.other (a := ⟨w0.heap.size + 3, 0, none⟩) (by show w0.heap.size ≠ w0.heap.size + 3; omega) _, h.ab.other (a := ⟨w0.heap.size + 3, 0, none⟩) (by show w0.heap.size + 1 ≠ w0.heap.size + 3; omega) _, h.sb.other (a := ⟨w0.heap.size + 3, 0, none⟩) (by show w0.heap.size + 2 ≠ w0.heap.size + 3; omega) _, h.eb.set 0 _, h.db.other (a := ⟨w0.heap.size + 3, 0, none⟩) (by show Q ≠ w0.heap.size + 3; omega) _, h.lo, h.below.setCell (by show w0.heap.size ≤ w0.heap.size + 3; omega) _⟩
theorem Jb7.aside (h : Jb7 w0 dp da en Q dd w) (ha : Aside (some ⟨Q, 0, none⟩) w w1) {d2 : Array Value} (hd : Box Q d2 41 w1) : Jb7 w0 dp da en Q d2 w1 := by
  have hl := h.lo
  have hn : ∀ b, b < Q → ∀ g off, (some (⟨Q, 0, none⟩ : Addr)) = some ⟨g, off, none⟩ → b ≠ g := fun b hb g off e => by
    cases e
    omega
  exact ⟨h.pb.aside ha (hn _ (by omega)), h.ab.aside ha (hn _ (by omega)), h.sb.aside ha (hn _ (by omega)), h.eb.aside ha (hn _ (by omega)), hd, h.lo, ha.below h.below fun g off e => by cases e; omega⟩
end
set_option maxRecDepth 20000 in
set_option maxHeartbeats 3200000 in
theorem door7 (w0 : World) (dp da : Array Value) (en : Int) (Q : Nat) (f : ByteArray) (bl : Bool) (s : ByteArray) (u : FrameMode) (w : World) (h : Jb7 w0 dp da en Q (dftC f bl s) w) (hf : f.size ≤ 140737488355328) (hs : s.size ≤ 140737488355328) :
    CallsD Try.prog 13 #[.pointer (some ⟨Q, 0, none⟩), .pointer (some ⟨w0.heap.size + 2, 0, none⟩), .pointer (some ⟨w0.heap.size + 3, 0, none⟩)] u w fun e u' w' => u' = u ∧ (e = .returned (.tuple #[]) ∧ Box (w0.heap.size + 2) #[.string (clT f bl s)] 9 w' ∧ Box (w0.heap.size + 3) #[.int .i64 (clE bl s)] 28 w' ∧ Below w0.heap.size w0 w') := by
  have kc := close7_spec Q f bl s w h.db hf hs
  have HJ : Hid (Jb7 w0 dp da en Q (dftC f bl s) w) := h
  clear h hf hs
  generalize clT f bl s = CT at *
  generalize clE bl s = CE at *
  go_enter_d Try.func13, Try.ntmps13
  go_wp2_with fail
  refine kc.mono ?_
  rintro e w2 ⟨rfl, hB2⟩
  have HJ2 : Hid (Jb7 w0 dp da en Q (dftC f bl s) w2) := HJ.out.next hB2
  clear kc hB2 HJ
  have r0 := HJ2.out.sb.c 0 _ rfl
  have z0 := HJ2.out.sb.z 0
  have r1 := HJ2.out.eb.c 0 _ rfl
  have z1 := HJ2.out.eb.z 0
  have HF : Hid (Box (w0.heap.size + 2) #[.string CT] 9 ((w2.setCell ⟨w0.heap.size + 2, 0, none⟩ (.string CT)).setCell ⟨w0.heap.size + 3, 0, none⟩ (.int .i64 CE)) ∧ Box (w0.heap.size + 3) #[.int .i64 CE] 28 ((w2.setCell ⟨w0.heap.size + 2, 0, none⟩ (.string CT)).setCell ⟨w0.heap.size + 3, 0, none⟩ (.int .i64 CE)) ∧ Below w0.heap.size w0 ((w2.setCell ⟨w0.heap.size + 2, 0, none⟩ (.string CT)).setCell ⟨w0.heap.size + 3, 0, none⟩ (.int .i64 CE))) :=
    ⟨(HJ2.out.sb.set 0 _).other (a := ⟨w0.heap.size + 3, 0, none⟩) (by show w0.heap.size + 2 ≠ w0.heap.size + 3; omega) _, (HJ2.out.eb.other (a := ⟨w0.heap.size + 2, 0, none⟩) (by show w0.heap.size + 3 ≠ w0.heap.size + 2; omega) _).set 0 _, (HJ2.out.below.setCell (by show w0.heap.size ≤ w0.heap.size + 2; omega) _).setCell (by show w0.heap.size ≤ w0.heap.size + 3; omega) _⟩
  go_wp2_with fail
  go_end0
  exact ⟨rfl, HF.out⟩

end Go.Proofs.Ytaepgjheknkojaa
