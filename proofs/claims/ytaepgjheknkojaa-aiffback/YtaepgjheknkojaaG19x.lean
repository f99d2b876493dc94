/- Own text: chunks laid as bytes, plain laws. AIFF files, taken apart and built, as plain functions. the walks of isId, isOdd, hasPad, mayHavePad, padOf. -/
import Derived.Test.YtaepgjheknkojaaR6chunks
import Derived.Test.YtaepgjheknkojaaG18x
import Derived.Test.YtaepgjheknkojaaR7comm
import Derived.Test.YtaepgjheknkojaaG11x
import Derived.BigQuiet
namespace Go.Proofs.Ytaepgjheknkojaa
open Go.RowKit
set_option linter.unusedSimpArgs false
set_option linter.unusedVariables false

def oddC (c : Chk) : Bool := decide (c.body.size % 2 = 1)
def layOk (c : Chk) (last : Bool) : Bool := idB c.id && (decide ((if oddC c && last then -1 else 0) ≤ c.pad) && decide (c.pad ≤ if oddC c then 255 else 0))
def headC (c : Chk) (big : Bool) : ByteArray := c.id ++ toT (c.body.size : Int) big ++ c.body
def tailC (c : Chk) : List Nat := if oddC c = true ∧ 0 ≤ c.pad then [c.pad.toNat] else []
def layOne (c : Chk) (big : Bool) : List Nat := bytesOf (headC c big) ++ tailC c
def layL (l : List Chk) (big : Bool) : List Nat := l.flatMap fun c => layOne c big
def layAll : List Chk → Bool
  | [] => true
  | [c] => layOk c true
  | c :: d :: t => layOk c false && layAll (d :: t)
theorem layAll_iff : ∀ l : List Chk, layAll l = true ↔ ∀ (i : Nat) (c : Chk), l[i]? = some c → layOk c (decide (i + 1 = l.length)) = true
  | [] => ⟨fun _ i c h => by simp at h, fun _ => rfl⟩
  | [c] => by
    constructor
    · intro h i d hd
      cases i with
      | zero =>
        simp at hd
        subst hd
        exact h
      | succ i => simp at hd
    · intro h
      exact h 0 c rfl
  | c :: d :: t => by
    have ih := layAll_iff (d :: t)
    constructor
    · intro h i e he
      obtain ⟨h1, h2⟩ := Bool.and_eq_true_iff.1 (show (layOk c false && layAll (d :: t)) = true from h)
      cases i with
      | zero =>
        simp at he
        subst he
        rw [show decide (0 + 1 = (c :: d :: t).length) = false from decide_eq_false (by simp)]
        exact h1
      | succ i =>
        have := ih.1 h2 i e (by simpa using he)
        rw [show decide (i + 1 + 1 = (c :: d :: t).length) = decide (i + 1 = (d :: t).length) from by simp]
        exact this
    · intro h
      show (layOk c false && layAll (d :: t)) = true
      rw [Bool.and_eq_true_iff]
      refine ⟨?_, ih.2 fun i e he => ?_⟩
      · have := h 0 c rfl
        rwa [show decide (0 + 1 = (c :: d :: t).length) = false from decide_eq_false (by simp)] at this
      · have := h (i + 1) e (by simpa using he)
        rwa [show decide (i + 1 + 1 = (c :: d :: t).length) = decide (i + 1 = (d :: t).length) from by simp] at this
/-- Lay's error and text. -/
def layE (l : List Chk) : Int := if l.length ≤ 1024 ∧ layAll l = true then 0 else 60
def layT (l : List Chk) (big : Bool) : ByteArray := if l.length ≤ 1024 ∧ layAll l = true then textOf (layL l big) else ⟨#[]⟩
theorem lay_no (l : List Chk) (big : Bool) (i : Nat) (c : Chk) (hi : l[i]? = some c) (h : layOk c (decide (i + 1 = l.length)) = false) : layE l = 60 ∧ layT l big = ⟨#[]⟩ := by
  have hn : ¬ (l.length ≤ 1024 ∧ layAll l = true) := fun q => by
    rw [(layAll_iff l).1 q.2 i c hi] at h
    cases h
  unfold layE layT
  rw [if_neg hn, if_neg hn]
  exact ⟨rfl, rfl⟩
theorem lay_many (l : List Chk) (big : Bool) (h : ¬ l.length ≤ 1024) : layE l = 60 ∧ layT l big = ⟨#[]⟩ := by
  have hn : ¬ (l.length ≤ 1024 ∧ layAll l = true) := fun q => h q.1
  unfold layE layT
  rw [if_neg hn, if_neg hn]
  exact ⟨rfl, rfl⟩
theorem lay_yes (l : List Chk) (big : Bool) (hl : l.length ≤ 1024) (h : ∀ (i : Nat) (c : Chk), l[i]? = some c → layOk c (decide (i + 1 = l.length)) = true) : layE l = 0 ∧ layT l big = textOf (layL l big) := by
  have hn : l.length ≤ 1024 ∧ layAll l = true := ⟨hl, (layAll_iff l).2 h⟩
  unfold layE layT
  rw [if_pos hn, if_pos hn]
  exact ⟨rfl, rfl⟩
theorem layL_take (l : List Chk) (big : Bool) (i : Nat) (c : Chk) (h : l[i]? = some c) : layL (l.take (i + 1)) big = layL (l.take i) big ++ layOne c big := by
  obtain ⟨hi, rfl⟩ := List.getElem?_eq_some_iff.1 h
  unfold layL
  rw [List.take_succ_eq_append_getElem hi, List.flatMap_append]
  simp
theorem layL_pre (l : List Chk) (big : Bool) (i : Nat) : (layL (l.take i) big).length ≤ (layL l big).length := by
  have e : layL l big = layL (l.take i) big ++ layL (l.drop i) big := by
    unfold layL
    rw [← List.flatMap_append, List.take_append_drop]
  rw [e, List.length_append]
  omega
theorem layL_lt (l : List Chk) (big : Bool) (h : ∀ (i : Nat) (c : Chk), l[i]? = some c → layOk c (decide (i + 1 = l.length)) = true) : ∀ b ∈ layL l big, b < 256 := by
  intro b hb
  unfold layL at hb
  obtain ⟨c, hc, hb⟩ := List.mem_flatMap.1 hb
  obtain ⟨i, hi⟩ := List.mem_iff_getElem?.1 hc
  rcases List.mem_append.1 hb with hb | hb
  · exact bytesOf_lt _ b hb
  · unfold tailC at hb
    split at hb
    · rename_i hq
      have hk := h i c hi
      unfold layOk at hk
      obtain ⟨_, hk⟩ := Bool.and_eq_true_iff.1 hk
      obtain ⟨_, hk⟩ := Bool.and_eq_true_iff.1 hk
      rw [hq.1, if_pos rfl] at hk
      have := of_decide_eq_true hk
      rw [List.mem_singleton] at hb
      omega
    · cases hb
/-- Bytes that a call owns and that grow. -/
structure Gb (w0 : World) (v : Value) (l : List Nat) (w : World) : Prop where
  own : w.ownsRow w0.heap.size 5 1 v l.length (l.map fun (b : Nat) => Value.int .u8 (b : Int))
  below : Below w0.heap.size w0 w
section
variable {w0 w w' : World} {v v' : Value} {l l' : List Nat}
theorem Gb.next (h : Gb w0 v l w) (hB : Below w.heap.size w w') : Gb w0 v l w' := ⟨owns_below h.own hB, h.below.trans (hB.mono h.below.size)⟩
theorem Gb.app (h : Gb w0 v l w) (hg : w.grownBy w' v.ownBlock) (ho : w'.ownsRow w0.heap.size 5 1 v' l'.length (l'.map fun (b : Nat) => Value.int .u8 (b : Int))) : Gb w0 v' l' w' :=
  ⟨ho, grown_to hg h.below h.below.size (fun k e => (h.own.lt k e).1)⟩
theorem Gb.shape (h : Gb w0 v l w) : ∃ va vc, v = .slice va l.length vc := by
  rcases h.own.2 with ⟨e, e0⟩ | ⟨g, cap, cur, e, _⟩
  · exact ⟨_, _, by rw [e, e0]⟩
  · exact ⟨_, _, e⟩
end
theorem strCells_bytes (s : ByteArray) : Lib.strCells s = (bytesOf s).map fun (b : Nat) => Value.int .u8 (b : Int) := by
  unfold Lib.strCells bytesOf
  rw [List.map_map]
  rfl
/-- Append of a text to bytes that the call owns, in a region that draws. -/
theorem step_append_str {P : Program} (w : World) {ops : Array Oper} {o : Oper} {a : Act} {K : Act → World → Prop} {Q : Exit → Act → World → Prop} {E : Prop} (hgd : o.guard = none) (sl x : Operand) (t u : TypeId)
    (ho : o.op = .call { callee := .builtin .append, args := #[sl, x], argTypes := #[t, u] }) (w0 : World) (i : TypeInfo) (ht : P.underlying t = some (.slice 5)) (hu : P.underlying u = some .string) (hi : P.info? 5 = some i) (hz : i.zero = some (.int .u8 0))
    (hsize : i.size = 1) (hby : i.bytes = 1) (v : Value) (l : List Nat) (hs : a.eval sl = v) (hown : Gb w0 v l w) (s : ByteArray) (hx : a.eval x = .string s)
    (hbytes : l.length + s.size ≤ 140737488355328)
    (h : ∀ v' w', Hid (Gb w0 v' (l ++ bytesOf s) w') → K (a.put o.dst v') w') : if Region.wanted o (yielded ops a.tmps) = true then Oper.wp P o a w K Q else E := by
  have hw : Region.wanted o (yielded ops a.tmps) = true := by simp [Region.wanted, hgd]
  rw [if_pos hw]
  obtain ⟨v', w', hr, h2, h3, h4⟩ := Lib.run_append_own_string (P := P) w w0.heap.size t u o.type 5 i ht hu hi hz hsize hby v l.length _ hown.own s (by simp only [maxLen]; omega) hbytes hown.below.size
  unfold Oper.wp execOp
  simp only [ho, resolve, invoke, builtin, Sem.run_bind, Sem.run_pure, Result.andThen_ok, List.map_toArray, List.map_cons, List.map_nil, hs, hx, hr]
  refine h v' w' (hown.app h3 ?_)
  rw [List.length_append, bytesOf_length, List.map_append, ← strCells_bytes]
  exact h2

end Go.Proofs.Ytaepgjheknkojaa

namespace Go.Proofs.Ytaepgjheknkojaa
open Go.RowKit
set_option linter.unusedSimpArgs false
set_option linter.unusedVariables false

def formT : ByteArray := ⟨#[70, 79, 82, 77]⟩
def aifcT : ByteArray := ⟨#[65, 73, 70, 67]⟩
def commT : ByteArray := ⟨#[67, 79, 77, 77]⟩
def ssndT : ByteArray := ⟨#[83, 83, 78, 68]⟩
theorem form_list : formT.toList = [70, 79, 82, 77] := by rw [ByteArray.toList_eq]; rfl
theorem aiff_list : aiffT.toList = [65, 73, 70, 70] := by rw [ByteArray.toList_eq]; rfl
theorem aifc_list : aifcT.toList = [65, 73, 70, 67] := by rw [ByteArray.toList_eq]; rfl
theorem comm_list : commT.toList = [67, 79, 77, 77] := by rw [ByteArray.toList_eq]; rfl
theorem ssnd_list : ssndT.toList = [83, 83, 78, 68] := by rw [ByteArray.toList_eq]; rfl
/-- Which files begin as an AIFF does. -/
def begB7 (s : ByteArray) : Bool := !decide ((s.size : Int) < 12) && ((s.extract 0 4).toList == formT.toList && ((s.extract 8 12).toList == aiffT.toList || (s.extract 8 12).toList == aifcT.toList))
def formB (f : ByteArray) : Bool := f.toList == aiffT.toList || f.toList == aifcT.toList
/-- Is it a form whose COMM names a compression? -/
def kB (f : ByteArray) : Bool := !(f.toList == aiffT.toList)
def headT7 (f : ByteArray) (n : Int) : ByteArray := formT ++ beT (n - 8) 4 ++ f
def wdB (w : Int) : Bool := w == 8 || (w == 16 || (w == 24 || w == 32))
def againE (x : Com) : Int := if x.ch == 0 then 2 else if decide (8 < x.ch) || !wdB x.wd then 3 else if decide (1048576 < x.smp) then 5 else 0
def wholeB (s : ByteArray) (c : Bool) : Bool := if c then decide (23 ≤ s.size) && decide (s.size = comN s) else decide (s.size = 18)
def kindT (s : ByteArray) (c : Bool) : ByteArray := if c then s.extract 18 22 else noneT
def atC (l : List Chk) (i : Int) : Chk := l.getD i.toNat noC
/-- The place of SSND, -1: there is none. -/
def snI (l : List Chk) : Int := (findN l ssndT).1
def lkB (f : ByteArray) (l : List Chk) : Bool := formB f && ((findN l commT).2 == 1 && !decide (1 < (findN l ssndT).2))
def cmB (l : List Chk) : ByteArray := (atC l (findN l commT).1).body
def lkE (f : ByteArray) (l : List Chk) : Int := if lkB f l then comE (cmB l) (kB f) else 2
def lkX (f : ByteArray) (l : List Chk) : Com := if lkB f l then comR (cmB l) (kB f) else noCom
def lkI (f : ByteArray) (l : List Chk) : Int := if lkB f l then snI l else 0
def stN (b : ByteArray) : Int := 8 + beI b 0 4
def stI (b : ByteArray) : Int := if 8 ≤ b.size then stN b else 0
def stB (b : ByteArray) : Bool := decide (8 ≤ b.size) && decide (stN b ≤ (b.size : Int))
def smpS (l : List Chk) (i : Int) : ByteArray := if i = -1 then ⟨#[]⟩ else (atC l i).body.extract (stN (atC l i).body).toNat (atC l i).body.size
def cut7C (c : Chk) : Chk := ⟨c.id, c.body.extract 0 (stN c.body).toNat, c.pad⟩
def cut7L (l : List Chk) (i : Int) : List Chk := if i = -1 then l else l.set i.toNat (cut7C (atC l i))
def wantN (x : Com) : Int := x.smp * x.ch * x.wd / 8
def cut7E (l : List Chk) (x : Com) (i : Int) : Int := if i != -1 && !stB (atC l i).body then 2 else if ((smpS l i).size : Int) != wantN x then 2 else 0
def opE (s : ByteArray) : Int := if begB7 s then (if 67108864 < s.size then 5 else if beI s 4 8 != (s.size : Int) - 8 then 2 else (chunksN (s.extract 12 s.size) true).2) else 3
def opL (s : ByteArray) : List Chk := (chunksN (s.extract 12 s.size) true).1
def opF (s : ByteArray) : ByteArray := s.extract 8 12
def opX (s : ByteArray) : Com := lkX (opF s) (opL s)
def opI (s : ByteArray) : Int := lkI (opF s) (opL s)
def opS (s : ByteArray) : ByteArray := smpS (opL s) (opI s)
def p7P (s : ByteArray) : Pcm := uP (opS s) (opX s).rate (opX s).ch (opX s).wd (!(opX s).lit) false
def p7L (s : ByteArray) : List Chk := cut7L (opL s) (opI s)
def p7E (s : ByteArray) : Int :=
  if opE s = 0 then (if lkE (opF s) (opL s) = 0 then (if cut7E (opL s) (opX s) (opI s) = 0 then uE (opS s) (opX s).rate (opX s).ch (opX s).wd (!(opX s).lit) false else 2) else lkE (opF s) (opL s)) else opE s
/-- What Build makes. -/
def smp7 (p : Pcm) (x : Com) : ByteArray := pakN p (!x.lit) false
def isOfB (x : Com) (p : Pcm) : Bool := x.rate == p.rate && (x.ch == p.ch && (x.wd == p.wd && x.smp == (lenP p : Int)))
def holdB (l : List Chk) (i : Int) (d : ByteArray) : Bool := if i == -1 then d.toList.isEmpty else stB (atC l i).body && stI (atC l i).body == ((atC l i).body.size : Int)
def filC7 (c : Chk) (d : ByteArray) : Chk := ⟨c.id, c.body ++ d, c.pad⟩
def filL (l : List Chk) (i : Int) (d : ByteArray) : List Chk := if i = -1 then l else l.set i.toNat (filC7 (atC l i) d)
def bodL (l : List Chk) : Nat := (l.map fun c => c.body.size).sum
def roomB (l : List Chk) : Bool := decide (bodL l ≤ 67108864)
def bl7 (p : Pcm) (f : ByteArray) (l : List Chk) : List Chk := filL l (lkI f l) (smp7 p (lkX f l))
def laidB (L : List Chk) : Bool := roomB L && (layE L == 0 && !decide (67108864 < 12 + ((layT L true).size : Int)))
def ok7 (p : Pcm) (f : ByteArray) (l : List Chk) : Bool := lkE f l == 0 && (isOfB (lkX f l) p && (holdB l (lkI f l) (smp7 p (lkX f l)) && laidB (bl7 p f l)))
def b7E (p : Pcm) (f : ByteArray) (l : List Chk) : Int := if fitsN 2 p = 0 then (if ok7 p f l then 0 else 60) else fitsN 2 p
def b7T (p : Pcm) (f : ByteArray) (l : List Chk) : ByteArray := if b7E p f l = 0 then headT7 f (12 + ((layT (bl7 p f l) true).size : Int)) ++ layT (bl7 p f l) true else ⟨#[]⟩

end Go.Proofs.Ytaepgjheknkojaa

namespace Go.Proofs.Ytaepgjheknkojaa
open Go.RowKit
set_option linter.unusedSimpArgs false
set_option linter.unusedVariables false

def padOk (c : Chk) (last : Bool) : Bool := decide ((if oddC c && last then -1 else 0) ≤ c.pad) && decide (c.pad ≤ if oddC c then 255 else 0)
theorem layOk_eq (c : Chk) (last : Bool) : layOk c last = (idB c.id && padOk c last) := rfl
def hasPadB (c : Chk) : Bool := oddC c && (c.pad != -1)
theorem oddC_int (c : Chk) : oddC c = ((c.body.size : Int) % 2 == 1) := by
  unfold oddC
  rw [Bool.eq_iff_iff, decide_eq_true_iff, beq_iff_eq]
  omega
theorem idB_len (s : ByteArray) (h : ¬ s.size = 4) : idB s = false := by
  unfold idB
  rw [decide_eq_false h, Bool.and_false]

set_option maxRecDepth 20000 in
set_option maxHeartbeats 1600000 in
theorem isId_spec (s : ByteArray) (hs : s.size ≤ 200000000000000) (w : World) :
    Calls Try.prog 87 #[.string s] w fun e w' => e = .returned (.bool (idB s)) ∧ w' = w := by
  by_cases h4 : s.size = 4
  · have h4b : ((s.size : Int) != 4) = false := by simp; omega
    go_enter Try.func87, Try.ntmps87
    go_wp2_with fail
    go_loop [9] (fun t => ∃ k : Nat, k ≤ s.size ∧ t = .int .i64 (k : Int) ∧ ∀ i (hi : i < s.size), i < k → idByte (s[i]'hi).toNat = true) (fun t => s.size - (intOf t).toNat)
    case atStart => exact ⟨0, Nat.zero_le _, rfl, fun i hi h => absurd h (Nat.not_lt_zero _)⟩
    case round =>
      obtain ⟨k, hk, rfl, hall⟩ := hrel
      have HALL : Hid (∀ i (hi : i < s.size), i < k → idByte (s[i]'hi).toNat = true) := hall
      clear hall
      by_cases hlt : k < s.size
      · have hb : (s[k]'hlt).toNat < 256 := (s[k]'hlt).toNat_lt
        by_cases h1 : (s[k]'hlt).toNat < 32
        · have HN : Hid (idB s = false) := all_byte_false s k hlt (by unfold idByte; exact decide_eq_false (by omega))
          go_wp2_with fail
          go_ret
          exact ⟨by rw [HN.out]; rfl, rfl⟩
        · by_cases h2 : 126 < (s[k]'hlt).toNat
          · have HN : Hid (idB s = false) := all_byte_false s k hlt (by unfold idByte; exact decide_eq_false (by omega))
            go_wp2_with fail
            go_ret
            exact ⟨by rw [HN.out]; rfl, rfl⟩
          · have HA : Hid (∀ i (hi : i < s.size), i < k + 1 → idByte (s[i]'hi).toNat = true) := fun i hi h => by
              by_cases e : i = k
              · subst e
                unfold idByte
                exact decide_eq_true ⟨by omega, by omega⟩
              · exact HALL.out i hi (by omega)
            clear HALL
            go_wp2_with fail
            go_round
            case rel => exact ⟨k + 1, by omega, by go_num, HA.out⟩
            case measure => simp [intOf]; omega
      · have HY : Hid (idB s = true) := (all_byte_true s (fun i hi => HALL.out i hi (by omega))).trans (decide_eq_true h4)
        clear HALL
        go_wp2_with fail
        go_ret
        exact ⟨by rw [HY.out]; rfl, rfl⟩
  · have HN : Hid (idB s = false) := idB_len s h4
    have h4b : ((s.size : Int) != 4) = true := by simp; omega
    go_enter Try.func87, Try.ntmps87
    go_wp2_with fail
    go_ret
    exact ⟨by rw [HN.out]; rfl, rfl⟩

set_option maxRecDepth 20000 in
set_option maxHeartbeats 1600000 in
theorem isOdd_spec (c : Chk) (w : World) :
    Calls Try.prog 94 #[chkV c] w fun e w' => e = .returned (.bool (oddC c)) ∧ Below w.heap.size w w' := by
  have HO : Hid (oddC c = ((c.body.size : Int) % 2 == 1)) := oddC_int c
  have HB : Hid (Below w.heap.size w (w.alloc (.cells (chkC c) 66))) := (Below.refl _ _).alloc (Nat.le_refl _) _
  go_enter Try.func94, Try.ntmps94
  go_wp2_with fail
  go_ret
  exact ⟨by rw [HO.out]; rfl, HB.out⟩

set_option maxRecDepth 20000 in
set_option maxHeartbeats 1600000 in
theorem hasPad_spec (c : Chk) (w : World) :
    Calls Try.prog 91 #[chkV c] w fun e w' => e = .returned (.bool (hasPadB c)) ∧ Below w.heap.size w w' := by
  have k := isOdd_spec c (w.alloc (.cells (chkC c) 66))
  have hr : (w.alloc (.cells (chkC c) 66)).heap[w.heap.size]? = some (.cells (chkC c) 66 (0, 0)) := heap_alloc_new _ _
  have HR : Hid ((w.alloc (.cells (chkC c) 66)).heap[w.heap.size]? = some (.cells (chkC c) 66 (0, 0))) := hr
  have HB : Hid (Below w.heap.size w (w.alloc (.cells (chkC c) 66))) := (Below.refl _ _).alloc (Nat.le_refl _) _
  clear hr
  cases ho : oddC c
  · have HO : Hid (hasPadB c = false) := by unfold hasPadB; rw [ho]; rfl
    rw [ho] at k
    go_enter Try.func91, Try.ntmps91
    go_wp2_with fail
    refine k.mono ?_
    rintro e w2 ⟨rfl, hB⟩
    have HB2 : Hid (Below w.heap.size w w2) := HB.out.trans (hB.mono HB.out.size)
    clear hB k
    go_wp2_with fail
    go_ret
    exact ⟨by rw [HO.out]; rfl, HB2.out⟩
  · have HO : Hid (hasPadB c = (c.pad != -1)) := by unfold hasPadB; rw [ho]; rfl
    rw [ho] at k
    go_enter Try.func91, Try.ntmps91
    go_wp2_with fail
    refine k.mono ?_
    rintro e w2 ⟨rfl, hB⟩
    have HB2 : Hid (Below w.heap.size w w2) := HB.out.trans (hB.mono HB.out.size)
    have c2 : w2.cell? ⟨w.heap.size, 2, none⟩ = some (.int .i64 c.pad) := by
      rw [cell_of_row _ _ _ _ _ _ ((hB.block _ (lt_of_block HR.out)).trans HR.out)]
      rfl
    clear hB k
    go_wp2_with fail
    go_ret
    exact ⟨by rw [HO.out]; rfl, HB2.out⟩

theorem padOk_even (c : Chk) (last : Bool) (h : oddC c = false) : padOk c last = (c.pad == 0) := by
  unfold padOk
  rw [h, Bool.eq_iff_iff, Bool.and_eq_true_iff, decide_eq_true_iff, decide_eq_true_iff, beq_iff_eq]
  simp
  omega
theorem padOk_none (c : Chk) (last : Bool) (h : oddC c = true) (hp : c.pad = -1) : padOk c last = last := by
  unfold padOk
  rw [h, hp]
  cases last <;> decide
theorem padOk_some (c : Chk) (last : Bool) (h : oddC c = true) (hp : ¬ c.pad = -1) : padOk c last = (decide (0 ≤ c.pad) && decide (c.pad ≤ 255)) := by
  unfold padOk
  rw [h]
  cases last
  · rfl
  · show (decide ((-1 : Int) ≤ c.pad) && decide (c.pad ≤ 255)) = _
    rw [Bool.eq_iff_iff, Bool.and_eq_true_iff, Bool.and_eq_true_iff]
    simp only [decide_eq_true_eq]
    omega

set_option maxRecDepth 20000 in
set_option maxHeartbeats 1600000 in
theorem mayHavePad_spec (c : Chk) (last : Bool) (w : World) :
    Calls Try.prog 88 #[chkV c, .bool last] w fun e w' => e = .returned (.bool (padOk c last)) ∧ Below w.heap.size w w' := by
  have k := isOdd_spec c (w.alloc (.cells (chkC c) 66))
  have hr : (w.alloc (.cells (chkC c) 66)).heap[w.heap.size]? = some (.cells (chkC c) 66 (0, 0)) := heap_alloc_new _ _
  have HR : Hid ((w.alloc (.cells (chkC c) 66)).heap[w.heap.size]? = some (.cells (chkC c) 66 (0, 0))) := hr
  have HB : Hid (Below w.heap.size w (w.alloc (.cells (chkC c) 66))) := (Below.refl _ _).alloc (Nat.le_refl _) _
  clear hr
  cases ho : oddC c
  · have HO : Hid (padOk c last = (c.pad == 0)) := padOk_even c last ho
    rw [ho] at k
    go_enter Try.func88, Try.ntmps88
    go_wp2_with fail
    refine k.mono ?_
    rintro e w2 ⟨rfl, hB⟩
    have HB2 : Hid (Below w.heap.size w w2) := HB.out.trans (hB.mono HB.out.size)
    have c2 : w2.cell? ⟨w.heap.size, 2, none⟩ = some (.int .i64 c.pad) := by
      rw [cell_of_row _ _ _ _ _ _ ((hB.block _ (lt_of_block HR.out)).trans HR.out)]
      rfl
    clear hB k
    go_wp2_with fail
    go_ret
    exact ⟨by rw [HO.out]; rfl, HB2.out⟩
  · rw [ho] at k
    by_cases hp : c.pad = -1
    · have HO : Hid (padOk c last = last) := padOk_none c last ho hp
      have HP : Hid (c.pad = -1) := hp
      clear hp
      go_enter Try.func88, Try.ntmps88
      go_wp2_with fail
      refine k.mono ?_
      rintro e w2 ⟨rfl, hB⟩
      have HB2 : Hid (Below w.heap.size w w2) := HB.out.trans (hB.mono HB.out.size)
      have c2 : w2.cell? ⟨w.heap.size, 2, none⟩ = some (.int .i64 (-1)) := by
        rw [cell_of_row _ _ _ _ _ _ ((hB.block _ (lt_of_block HR.out)).trans HR.out), ← HP.out]
        rfl
      clear hB k
      go_wp2_with fail
      go_ret
      exact ⟨by rw [HO.out]; rfl, HB2.out⟩
    · have HO : Hid (padOk c last = (decide (0 ≤ c.pad) && decide (c.pad ≤ 255))) := padOk_some c last ho hp
      have hpb : (c.pad == -1) = false := by simp [hp]
      clear hp
      cases h0 : decide (0 ≤ c.pad)
      · rw [h0] at HO
        go_enter Try.func88, Try.ntmps88
        go_wp2_with fail
        refine k.mono ?_
        rintro e w2 ⟨rfl, hB⟩
        have HB2 : Hid (Below w.heap.size w w2) := HB.out.trans (hB.mono HB.out.size)
        have c2 : w2.cell? ⟨w.heap.size, 2, none⟩ = some (.int .i64 c.pad) := by
          rw [cell_of_row _ _ _ _ _ _ ((hB.block _ (lt_of_block HR.out)).trans HR.out)]
          rfl
        clear hB k
        go_wp2_with fail
        go_ret
        exact ⟨by rw [HO.out]; rfl, HB2.out⟩
      · rw [h0] at HO
        go_enter Try.func88, Try.ntmps88
        go_wp2_with fail
        refine k.mono ?_
        rintro e w2 ⟨rfl, hB⟩
        have HB2 : Hid (Below w.heap.size w w2) := HB.out.trans (hB.mono HB.out.size)
        have c2 : w2.cell? ⟨w.heap.size, 2, none⟩ = some (.int .i64 c.pad) := by
          rw [cell_of_row _ _ _ _ _ _ ((hB.block _ (lt_of_block HR.out)).trans HR.out)]
          rfl
        clear hB k
        go_wp2_with fail
        go_ret
        exact ⟨by rw [HO.out]; rfl, HB2.out⟩

theorem isEmpty_true (s : ByteArray) (h : s.size = 0) : s.toList.isEmpty = true := by
  have : s = ⟨#[]⟩ := by
    apply ByteArray.ext
    exact Array.eq_empty_of_size_eq_zero h
  rw [this, ByteArray.toList_eq]
  rfl
theorem isEmpty_false (s : ByteArray) (h : 0 < s.size) : s.toList.isEmpty = false := by
  rw [ByteArray.toList_eq]
  rw [List.isEmpty_eq_false_iff]
  intro e
  have : s.size = 0 := by
    show s.data.size = 0
    rw [← Array.length_toList, e]
    rfl
  omega
theorem below_drewN (w : World) (n : Nat) : Below w.heap.size w (w.drewN n) := ⟨rfl, rfl, rfl, Nat.le_refl _, fun _ _ => rfl⟩
set_option maxRecDepth 20000 in
set_option maxHeartbeats 1600000 in
theorem padOf_none (s : ByteArray) (h : s.size = 0) (w : World) :
    Calls Try.prog 95 #[.string s] w fun e w' => e = .returned (.tuple #[.int .i64 (-1), .string s]) ∧ Below w.heap.size w w' := by
  have he := isEmpty_true s h
  go_enter Try.func95, Try.ntmps95
  go_wp2_with fail
  go_ret2
  exact ⟨rfl, Below.refl _ _⟩
set_option maxRecDepth 20000 in
set_option maxHeartbeats 1600000 in
theorem padOf_some (s : ByteArray) (h : 0 < s.size) (hs : s.size ≤ 200000000000000) (w : World) :
    Calls Try.prog 95 #[.string s] w fun e w' => e = .returned (.tuple #[.int .i64 ((bytesOf s).getD 0 0 : Int), .string (s.extract 1 s.size)]) ∧ Below w.heap.size w w' := by
  have he := isEmpty_false s h
  have HBY : Hid ((bytesOf s).getD 0 0 = (s[0]'h).toNat) := byte_getD s 0 h
  have hbb : (s[0]'h).toNat < 256 := (s[0]'h).toNat_lt
  go_enter Try.func95, Try.ntmps95
  go_wp2_with fail
  go_quiet (fail)
  go_wp2_with fail
  go_ret2
  exact ⟨by rw [HBY.out]; rfl, below_drewN _ _⟩

end Go.Proofs.Ytaepgjheknkojaa
