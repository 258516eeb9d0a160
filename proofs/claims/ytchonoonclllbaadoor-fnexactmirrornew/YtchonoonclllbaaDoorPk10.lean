/- Texts in one: HeO, Sr1, Lg1, Lg2, Sr2, Mg1, Mi1, GetT, SrC. -/
import Derived.Test.YtchonoonclllbaaDoorPk6
import Derived.Test.YtchonoonclllbaaDoorPk9
import Derived.Test.YtchonoonclllbaaDoorPk8
import Derived.Test.YtchonoonclllbaaDoorPk2
import Derived.Test.YtchonoonclllbaaDoorPk3
import Derived.Test.YtchonoonclllbaaDoorPk5
import Derived.BigQuiet
import Derived.Deep.RegionHeld3
import Derived.Laws.StructEq
namespace Go.Proofs.YtchonoonclllbaaDoor.He
open Go.RowKit Go.Proofs.YtchonoonclllbaaDoor.Mem Go.Proofs.YtchonoonclllbaaDoor.Laws Go.Proofs.YtchonoonclllbaaDoor.Bytes Go.Proofs.YtchonoonclllbaaDoor.Sha Go.Proofs.YtchonoonclllbaaDoor.Tr
set_option linter.unusedVariables false
set_option linter.unusedSimpArgs false
set_option maxRecDepth 1000000 in
set_option maxHeartbeats 1000000 in
theorem headOf_spec (w : World) (v : Value) (l : List ByteArray) (h : Sl w v (ss l)) (hl : l.length ≤ 1000000000000) (hz : ∀ s ∈ l, s.size ≤ 10000000000) :
  Calls Tryd.prog 11 #[v] w fun e w' => e = .returned (.agg #[.int .i64 (headOf l).n, .string (headOf l).r]) ∧ Below w.heap.size w w' := by
 have HR : Hid ((w.alloc (.cells #[.int .i64 0, .string ⟨#[]⟩] 24)).heap[w.heap.size]? = some (.cells (hc hd0) 24 (0, 0))) := heap_alloc_new w _
 have HB : Hid (Below w.heap.size w (w.alloc (.cells #[.int .i64 0, .string ⟨#[]⟩] 24))) := (Below.refl _ _).alloc (Nat.le_refl _) _
 by_cases h2 : l.length ≤ 200
 ·
  have q := root_any l.length l (Nat.le_refl _) (w.alloc (.cells #[.int .i64 0, .string ⟨#[]⟩] 24)) v (h.later HB.out) (by omega) hz
  obtain ⟨M, hM⟩ : ∃ M, headOf l = M := ⟨_, rfl⟩
  have hM2 : M = ⟨l.length, root l⟩ := by rw [← hM]; unfold headOf; rw [if_pos h2]
  obtain ⟨ao, cap, rfl, hcap, _⟩ := h
  have d2 : ¬ (200 : Int) < (l.length : Int) := by omega
  obtain ⟨x, hx⟩ : ∃ x, root l = x := ⟨_, rfl⟩
  rw [hx] at q hM2
  rw [hM, hM2]
  rw [ss_len] at *
  clear hx hM hM2 hz
  go_enter Tryd.func11, Tryd.ntmps11
  go_wp2_with fail
  refine q.mono ?_
  rintro e w1 ⟨rfl, b1⟩
  have R1 := rowKeep HR.out b1
  have B1 : Below w.heap.size w w1 := HB.out.trans (b1.mono HB.out.size)
  clear q HR b1
  go_wp2_with (refine wpList_store_row rfl 24 _ _ rfl w.heap.size (hc (⟨(l.length : Int), x⟩ : Hd)) rfl rfl 24 _ R1 (sizeH (⟨(l.length : Int), x⟩ : Hd)) rfl (oneH (⟨(l.length : Int), x⟩ : Hd)) ?_)
  exact bodyPost_ret (v := .agg (hc ⟨(l.length : Int), x⟩)) (results_cell_row rfl _ _ w.heap.size 24 _ (0, 0) _ rfl (setRow_heap _ _ _ _ _ (0, 0) R1) Tryd.underlying24 rfl (sizeH _)) rfl ⟨rfl, below_setRow B1 (Nat.le_refl _) _⟩
 ·
  have d2 : (200 : Int) < (l.length : Int) := by omega
  have hM : headOf l = hd0 := by unfold headOf; rw [if_neg h2]
  rw [hM]
  obtain ⟨ao, cap, rfl, hcap, _⟩ := h
  rw [ss_len]
  clear hz hM
  go_enter Tryd.func11, Tryd.ntmps11
  go_wp2_with (refine wpList_store_row rfl 24 _ _ rfl w.heap.size (hc hd0) rfl rfl 24 _ HR.out (sizeH hd0) rfl (oneH hd0) ?_)
  exact bodyPost_ret (v := .agg (hc hd0)) (results_cell_row rfl _ _ w.heap.size 24 _ (0, 0) _ rfl (setRow_heap _ _ _ _ _ (0, 0) HR.out) Tryd.underlying24 rfl (sizeH hd0)) rfl ⟨rfl, below_setRow HB.out (Nat.le_refl _) _⟩
end Go.Proofs.YtchonoonclllbaaDoor.He
namespace Go.Proofs.YtchonoonclllbaaDoor.Sr
open Go.RowKit Go.Proofs.YtchonoonclllbaaDoor.Mem Go.Proofs.YtchonoonclllbaaDoor.Laws Go.Proofs.YtchonoonclllbaaDoor.Sha Go.Proofs.YtchonoonclllbaaDoor.Tr Go.Proofs.YtchonoonclllbaaDoor.He
set_option linter.unusedVariables false
set_option linter.unusedSimpArgs false
def body (h : Hd) (x : List ByteArray) : List Int := Puts.num h.n ++ Puts.tx h.r ++ (Puts.num (x.length : Int) ++ Puts.txs x)
def sum4 (b : List Int) : List Int := (digest b).take 4
def put (h : Hd) (x : List ByteArray) : List Int := Puts.num ((body h x).length : Int) ++ (body h x ++ sum4 (body h x))
def no12 (a : Int) : Hd × List ByteArray × Int × Bool := (hd0, [], a, false)
def inBody (b : List Int) : Option (Hd × List ByteArray) :=
 if (Plain.getNum b 0).2.2 = true ∧ (Plain.getText b (Plain.getNum b 0).2.1).2.2 = true ∧ (Plain.getTexts b (Plain.getText b (Plain.getNum b 0).2.1).2.1).2.2 = true ∧
   (Plain.getTexts b (Plain.getText b (Plain.getNum b 0).2.1).2.1).2.1 = (b.length : Int) ∧ okH ⟨(Plain.getNum b 0).1, (Plain.getText b (Plain.getNum b 0).2.1).1⟩ = true ∧
   ¬ (Plain.getTexts b (Plain.getText b (Plain.getNum b 0).2.1).2.1).1.length = 0
 then some (⟨(Plain.getNum b 0).1, (Plain.getText b (Plain.getNum b 0).2.1).1⟩, (Plain.getTexts b (Plain.getText b (Plain.getNum b 0).2.1).2.1).1)
 else none
def getC (xs : List Int) (a : Int) : Hd × List ByteArray × Int × Bool :=
 if (Plain.getNum xs a).2.2 = true ∧ (Plain.getNum xs a).1 ≤ (xs.length : Int) - (Plain.getNum xs a).2.1 - 4 then
  match inBody ((xs.drop (Plain.getNum xs a).2.1.toNat).take (Plain.getNum xs a).1.toNat) with
  | some (h, x) =>
   if (xs.drop ((Plain.getNum xs a).2.1.toNat + (Plain.getNum xs a).1.toNat)).take 4 = sum4 ((xs.drop (Plain.getNum xs a).2.1.toNat).take (Plain.getNum xs a).1.toNat) then
    (h, x, (Plain.getNum xs a).2.1 + (Plain.getNum xs a).1 + 4, true)
   else no12 a
  | none => no12 a
 else no12 a
end Go.Proofs.YtchonoonclllbaaDoor.Sr
namespace Go.Proofs.YtchonoonclllbaaDoor.Lg
open Go.RowKit Go.Proofs.YtchonoonclllbaaDoor.Mem Go.Proofs.YtchonoonclllbaaDoor.Laws Go.Proofs.YtchonoonclllbaaDoor.Bytes Go.Proofs.YtchonoonclllbaaDoor.Sha Go.Proofs.YtchonoonclllbaaDoor.Tr Go.Proofs.YtchonoonclllbaaDoor.He
set_option linter.unusedVariables false
set_option linter.unusedSimpArgs false
def lc (v : Value) (h : Hd) : Array Value := #[v, .int .i64 h.n, .string h.r]
theorem sizeL (v : Value) (h : Hd) : (Tryd.prog.info? 26).map (·.size) = some (lc v h).size := by
 show _ = some 3
 kernel_rfl
theorem oneL {v : Value} (h : Hd) (hv : v.oneCell' = true) : (lc v h).all (·.oneCell') = true := by
 simp [lc, Value.oneCell']
 exact hv
def logOk (l : List ByteArray) (h : Hd) : Bool := decide (l.length ≤ 200) && eqH h (headOf l)
set_option maxRecDepth 1000000 in
set_option maxHeartbeats 1000000 in
theorem lognew_spec (w : World) : Calls Tryd.prog 19 #[] w fun e w' => e = .returned (.agg #[.slice none 0 0, .int .i64 (headOf []).n, .string (headOf []).r]) ∧ Below w.heap.size w w' := by
 obtain ⟨W, hW⟩ : ∃ W, W = (w.alloc (.cells (lc (.slice none 0 0) hd0) 26)).alloc (.cells #[] 9) := ⟨_, rfl⟩
 have HB : Hid (Below w.heap.size w W) := by
  show Below _ _ _
  rw [hW]
  exact ((Below.refl _ _).alloc (Nat.le_refl _) _).alloc (by simp) _
 have HR : Hid (W.heap[w.heap.size]? = some (.cells (lc (.slice none 0 0) hd0) 26 (0, 0))) := by show _ = _; rw [hW]; exact heap_alloc2_old w _ _
 have q : ∀ v, Sl W v (ss []) → _ := fun v hv => headOf_spec W v [] hv (by simp) (by simp)
 have q1 := q (.slice (some ⟨w.heap.size + 1, 0, none⟩) 0 0) (by
  have h := (emptyT (w.alloc (.cells (lc (.slice none 0 0) hd0) 26)) 0 (Nat.zero_le _)).sl
  rw [hW]
  simpa using h)
 obtain ⟨M, hM⟩ : ∃ M, headOf [] = M := ⟨_, rfl⟩
 rw [hM] at q1 ⊢
 rw [hW] at q1
 have HW : Hid (W = _) := hW
 clear hW hM q
 unfold lc hd0 at q1
 go_enter Tryd.func19, Tryd.ntmps19
 go_wp2_with fail
 refine q1.mono ?_
 rintro e w1 ⟨rfl, b1⟩
 have hW := HW.out
 unfold lc hd0 at hW
 rw [← hW] at b1
 have R1 := rowKeep HR.out b1
 have B1 : Below w.heap.size w w1 := HB.out.trans (b1.mono HB.out.size)
 clear q1 HW hW b1 HR HB
 go_wp2_with (refine wpList_store_row rfl 26 _ _ rfl w.heap.size (lc (.slice none 0 0) M) rfl rfl 26 _ R1 (sizeL _ _) rfl (oneL _ rfl) ?_)
 exact bodyPost_ret (v := .agg (lc (.slice none 0 0) M)) (results_cell_row rfl _ _ w.heap.size 26 _ (0, 0) _ rfl (setRow_heap _ _ _ _ _ (0, 0) R1) Tryd.underlying26 rfl (sizeL _ _)) rfl ⟨rfl, below_setRow B1 (Nat.le_refl _) _⟩
def extend (l : List ByteArray) (hd : Hd) (t : List Hd) (h : Hd) (x : List ByteArray) : List ByteArray × Hd × Int :=
 if logOk l hd = true ∧ okH h = true ∧ h.n = ((l ++ x).length : Int) then
  if signed t h = true then
   if x.length = 0 then (l, hd, 3) else if eqH h (headOf (l ++ x)) = true then (l ++ x, h, 0) else (l, hd, 4)
  else (l, hd, 2)
 else (l, hd, 1)
end Go.Proofs.YtchonoonclllbaaDoor.Lg
namespace Go.Proofs.YtchonoonclllbaaDoor.Sr
open Go.RowKit Go.Proofs.YtchonoonclllbaaDoor.Mem Go.Proofs.YtchonoonclllbaaDoor.Laws Go.Proofs.YtchonoonclllbaaDoor.Sha Go.Proofs.YtchonoonclllbaaDoor.Tr Go.Proofs.YtchonoonclllbaaDoor.He Go.Proofs.YtchonoonclllbaaDoor.Lg
set_option linter.unusedVariables false
set_option linter.unusedSimpArgs false
structure Sto where
 l : List ByteArray
 h : Hd
 b : List Int
 s : Int
def new12 : Sto := ⟨[], headOf [], [], 0⟩
def replayF : Nat → List Int → Nat → List ByteArray → Hd → List ByteArray × Hd × Bool
 | 0, _, _, l, hd => (l, hd, true)
 | f + 1, xs, a, l, hd =>
  if a < xs.length then
   if (getC xs (a : Int)).2.2.2 = true ∧ l.length + (getC xs (a : Int)).2.1.length ≤ 200 then
    if eqH (getC xs (a : Int)).1 (headOf (l ++ (getC xs (a : Int)).2.1)) = true then
     replayF f xs (getC xs (a : Int)).2.2.1.toNat (l ++ (getC xs (a : Int)).2.1) (getC xs (a : Int)).1
    else (l ++ (getC xs (a : Int)).2.1, (getC xs (a : Int)).1, false)
   else (l, hd, false)
  else (l, hd, true)
def replay (xs : List Int) : List ByteArray × Hd × Bool := replayF xs.length xs 0 [] (headOf [])
def storeOk (st : Sto) : Bool := logOk st.l st.h && decide (st.b.length ≤ 60000) && decide (0 ≤ st.s ∧ st.s ≤ (st.b.length : Int)) && (replay st.b).2.2 && decide ((replay st.b).1 = st.l)
def commit1 (st : Sto) (t : List Hd) (h : Hd) (x : List ByteArray) : Sto × Int :=
 if (extend st.l st.h t h x).2.2 = 0 then (⟨(extend st.l st.h t h x).1, (extend st.l st.h t h x).2.1, st.b ++ put h x, st.s⟩, 0) else (st, (extend st.l st.h t h x).2.2)
def commit (st : Sto) (t : List Hd) (h : Hd) (x : List ByteArray) : Sto × Int :=
 if storeOk st = true ∧ st.b.length + (put h x).length ≤ 60000 then commit1 st t h x else (st, 1)
end Go.Proofs.YtchonoonclllbaaDoor.Sr
namespace Go.Proofs.YtchonoonclllbaaDoor.Mg
open Go.RowKit Go.Proofs.YtchonoonclllbaaDoor.Mem Go.Proofs.YtchonoonclllbaaDoor.Laws Go.Proofs.YtchonoonclllbaaDoor.Sha Go.Proofs.YtchonoonclllbaaDoor.Tr Go.Proofs.YtchonoonclllbaaDoor.He
set_option linter.unusedVariables false
set_option linter.unusedSimpArgs false
structure Ms where
  k : Int
  f : Int
  t : Int
  h : Hd
  n : Int
  x : List ByteArray
def place (xs : List Int) : Ms × Bool :=
  (⟨(Plain.getNum xs 0).1, (Plain.getNum xs (Plain.getNum xs 0).2.1).1, (Plain.getNum xs (Plain.getNum xs (Plain.getNum xs 0).2.1).2.1).1,
    ⟨(Plain.getNum xs (Plain.getNum xs (Plain.getNum xs (Plain.getNum xs 0).2.1).2.1).2.1).1, (Plain.getText xs (Plain.getNum xs (Plain.getNum xs (Plain.getNum xs (Plain.getNum xs 0).2.1).2.1).2.1).2.1).1⟩,
    (Plain.getNum xs (Plain.getText xs (Plain.getNum xs (Plain.getNum xs (Plain.getNum xs (Plain.getNum xs 0).2.1).2.1).2.1).2.1).2.1).1,
    (Plain.getTexts xs (Plain.getNum xs (Plain.getText xs (Plain.getNum xs (Plain.getNum xs (Plain.getNum xs (Plain.getNum xs 0).2.1).2.1).2.1).2.1).2.1).2.1).1⟩,
   (Plain.getNum xs 0).2.2 && (Plain.getNum xs (Plain.getNum xs 0).2.1).2.2 && (Plain.getNum xs (Plain.getNum xs (Plain.getNum xs 0).2.1).2.1).2.2 &&
    (Plain.getNum xs (Plain.getNum xs (Plain.getNum xs (Plain.getNum xs 0).2.1).2.1).2.1).2.2 && (Plain.getText xs (Plain.getNum xs (Plain.getNum xs (Plain.getNum xs (Plain.getNum xs 0).2.1).2.1).2.1).2.1).2.2 &&
    (Plain.getNum xs (Plain.getText xs (Plain.getNum xs (Plain.getNum xs (Plain.getNum xs (Plain.getNum xs 0).2.1).2.1).2.1).2.1).2.1).2.2 &&
    (Plain.getTexts xs (Plain.getNum xs (Plain.getText xs (Plain.getNum xs (Plain.getNum xs (Plain.getNum xs (Plain.getNum xs 0).2.1).2.1).2.1).2.1).2.1).2.1).2.2 &&
    decide ((Plain.getTexts xs (Plain.getNum xs (Plain.getText xs (Plain.getNum xs (Plain.getNum xs (Plain.getNum xs (Plain.getNum xs 0).2.1).2.1).2.1).2.1).2.1).2.1).2.1 = (xs.length : Int)))
end Go.Proofs.YtchonoonclllbaaDoor.Mg
namespace Go.Proofs.YtchonoonclllbaaDoor.Mi
open Go.RowKit Go.Proofs.YtchonoonclllbaaDoor.Mem Go.Proofs.YtchonoonclllbaaDoor.Sha Go.Proofs.YtchonoonclllbaaDoor.Tr Go.Proofs.YtchonoonclllbaaDoor.He Go.Proofs.YtchonoonclllbaaDoor.Lg Go.Proofs.YtchonoonclllbaaDoor.Sr Go.Proofs.YtchonoonclllbaaDoor.Mg
set_option linter.unusedVariables false
structure Mr where
 id : Int
 st : Sto
 b : Hd
def st0 : Sto := ⟨[], hd0, [], 0⟩
def mr0 : Mr := ⟨0, st0, hd0⟩
def mirrorNew (id : Int) : Mr := if 0 ≤ id ∧ id ≤ 20 then ⟨id, new12, headOf []⟩ else mr0
def another (m : Mr) (to : Int) : Bool := decide (0 ≤ to ∧ to ≤ 20) && !decide (to = m.id)
def answer (m : Mr) (w : Ms) : List Ms :=
 if w.h.n ≤ (m.st.l.length : Int) ∧ eqH w.h (headOf (m.st.l.take w.h.n.toNat)) = true then [⟨3, m.id, w.f, w.h, w.n, (m.st.l.take w.h.n.toNat).drop w.n.toNat⟩] else []
end Go.Proofs.YtchonoonclllbaaDoor.Mi
namespace Go.Proofs.YtchonoonclllbaaDoor.GetT
open Go.RowKit Go.Proofs.YtchonoonclllbaaDoor.Mem Go.Proofs.YtchonoonclllbaaDoor.Plain
set_option linter.unusedVariables false
theorem conv_none (ao : Option Addr) (c : Nat) (w : World) : (convert 27 9 (.slice ao 0 c)).run Tryd.prog w = .ok (.string ⟨#[]⟩) w := by
 cases ao with
 | none => rw [run_convert_bytes_string w 27 9 5 none 0 c Tryd.underlying27 Tryd.underlying5 Tryd.underlying9]; rfl
 | some a => exact run_convert_bytes_back w 27 9 5 a c [] Tryd.underlying27 Tryd.underlying5 Tryd.underlying9 (fun j hj => by simp at hj)
end Go.Proofs.YtchonoonclllbaaDoor.GetT
namespace Go.Proofs.YtchonoonclllbaaDoor.Sr
open Go.RowKit Go.Proofs.YtchonoonclllbaaDoor.Mem Go.Proofs.YtchonoonclllbaaDoor.Laws Go.Proofs.YtchonoonclllbaaDoor.Bytes Go.Proofs.YtchonoonclllbaaDoor.Sha Go.Proofs.YtchonoonclllbaaDoor.Tr Go.Proofs.YtchonoonclllbaaDoor.He Go.Proofs.YtchonoonclllbaaDoor.Lg
set_option linter.unusedVariables false
set_option linter.unusedSimpArgs false
def sc (v : Value) (h : Hd) (b : Value) (s : Int) : Array Value := #[v, .int .i64 h.n, .string h.r, b, .int .i64 s]
theorem sizeS (v : Value) (h : Hd) (b : Value) (s : Int) : (Tryd.prog.info? 29).map (·.size) = some (sc v h b s).size := by
 show _ = some 5
 kernel_rfl
theorem oneS {v b : Value} (h : Hd) (s : Int) (hv : v.oneCell' = true) (hb : b.oneCell' = true) : (sc v h b s).all (·.oneCell') = true := by
 simp [sc, Value.oneCell']
 exact ⟨hv, hb⟩
set_option maxRecDepth 1000000 in
set_option maxHeartbeats 1000000 in
theorem storenew_spec (w : World) : Calls Tryd.prog 10 #[] w fun e w' => e = .returned (.agg #[.slice none 0 0, .int .i64 (headOf []).n, .string (headOf []).r, .slice none 0 0, .int .i64 0]) ∧ Below w.heap.size w w' := by
 have B0 : Hid (Below w.heap.size w w) := Below.refl _ _
 obtain ⟨W1, HW1, b1, y1, hS1, r_res1⟩ := Ke.l1 w #[.slice none 0 0, .int .i64 0, .string ⟨#[]⟩, .slice none 0 0, .int .i64 0] 29
 have z1 := b1.size
 have B1 := Ke.b B0 b1
 obtain ⟨M, hM⟩ : ∃ M, headOf [] = M := ⟨_, rfl⟩
 have q : ∀ W, _ := fun W => lognew_spec W
 simp only [hM] at q
 rw [hM]
 clear hM
 go_enter Tryd.func10, Tryd.ntmps10
 go_wp2_with fail
 rw [HW1.out]
 refine (q W1).mono ?_
 rintro e W2 ⟨rfl, b2⟩
 have z2 := b2.size
 have B2 := Ke.b B1 b2
 have r_res2 := Ke.r r_res1 b2
 clear r_res1
 go_wp2_with (refine wpList_store_row rfl 29 _ _ rfl (w.heap.size) (sc (.slice none 0 0) M (.slice none 0 0) 0) rfl rfl 29 _ r_res2.out (sizeS _ _ _ _) rfl (oneS _ _ rfl rfl) ?_)
 refine bodyPost_ret (v := .agg (sc (.slice none 0 0) M (.slice none 0 0) 0)) (results_cell_row rfl _ _ (w.heap.size) 29 _ (0, 0) _ rfl (setRow_heap _ _ _ _ _ (0, 0) r_res2.out) Tryd.underlying29 rfl (sizeS _ _ _ _)) rfl ⟨rfl, below_setRow B2.out (by omega) _⟩
end Go.Proofs.YtchonoonclllbaaDoor.Sr
