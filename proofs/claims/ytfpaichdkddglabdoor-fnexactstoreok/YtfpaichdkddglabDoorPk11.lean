/- Texts in one: HeE, He2, He3, HeO, Sr1, Lg1, Nth, Lg2. -/
import Derived.Test.YtfpaichdkddglabDoorPk10
import Derived.Test.YtfpaichdkddglabDoorPk9
import Derived.Test.YtfpaichdkddglabDoorPk6
import Derived.Test.YtfpaichdkddglabDoorPk8
import Derived.Laws.StructEq
import Derived.BigQuiet
import Derived.Deep.RegionHeld3
/- Two heads held against each other, as the language does it. -/
namespace Go.Proofs.YtfpaichdkddglabDoor.He
open Go.RowKit Go.Proofs.YtfpaichdkddglabDoor.Mem Go.Proofs.YtfpaichdkddglabDoor.Laws Go.Proofs.YtfpaichdkddglabDoor.Bytes Go.Proofs.YtfpaichdkddglabDoor.Sha Go.Proofs.YtfpaichdkddglabDoor.Tr
set_option linter.unusedVariables false
set_option linter.unusedSimpArgs false

theorem fieldsH : Tryd.prog.underlying 24 = some (.struct (Tryd.prog.fieldsOf 24)) := by kernel_rfl
theorem heldH : Tryd.prog.stoodInHeld 24 = false := by kernel_rfl
theorem guardH : Tryd.prog.eqGuardType Tryd.prog.depth 24 = false := by kernel_rfl
theorem eqHrun (w : World) (a b : Hd) :
    (Op.equalIn 10000 24 (.agg #[.int .i64 a.n, .string a.r]) (.agg #[.int .i64 b.n, .string b.r])).run Tryd.prog w = .ok (eqH a b) w := by
  rw [run_equalIn_struct w 9999 _ _ _ fieldsH heldH]
  simp [Program.fieldsOf, Tryd.underlying24, Op.eqFields, go_sem, run_underlying Tryd.underlying3, run_underlying Tryd.underlying9, Tryd.underlying3, Tryd.underlying9, part]
  unfold eqH
  repeat' split
  all_goals simp_all
theorem eqlH (w : World) (a b : Hd) : (binOp .eql 24 (.agg #[.int .i64 a.n, .string a.r]) (.agg #[.int .i64 b.n, .string b.r])).run Tryd.prog w = .ok (.bool (eqH a b)) w := by
  rw [run_eql_struct, eqHrun]
  rfl
theorem neqH (w : World) (a b : Hd) : (binOp .neq 24 (.agg #[.int .i64 a.n, .string a.r]) (.agg #[.int .i64 b.n, .string b.r])).run Tryd.prog w = .ok (.bool (!eqH a b)) w := by
  rw [run_neq_struct, eqHrun]
  rfl
theorem grdH (w : World) (op : BinOp) (x y : Operand) (xs ys : Array Value) : (eqGuard op 24 x y (.agg xs) (.agg ys)).run Tryd.prog w = .ok () w := run_eqGuard_agg w op 24 x y xs ys guardH
theorem eqH_iff (a b : Hd) : eqH a b = true ↔ a = b := by
  unfold eqH
  simp only [Bool.and_eq_true, beq_iff_eq, ByteArray.toList_eq]
  constructor
  · rintro ⟨h1, h2⟩
    exact Hd.ext' h1 (by apply ByteArray.ext; apply Array.ext'; exact h2)
  · rintro rfl
    exact ⟨rfl, rfl⟩

end Go.Proofs.YtfpaichdkddglabDoor.He

/- Chapter 10, the laws' helpers: a head's size, its turning, whether two are the same; lists of heads. -/
namespace Go.Proofs.YtfpaichdkddglabDoor.He
open Go.RowKit Go.Proofs.YtfpaichdkddglabDoor.Mem Go.Proofs.YtfpaichdkddglabDoor.Laws Go.Proofs.YtfpaichdkddglabDoor.Bytes Go.Proofs.YtfpaichdkddglabDoor.Sha Go.Proofs.YtfpaichdkddglabDoor.Tr
set_option linter.unusedVariables false
set_option linter.unusedSimpArgs false

theorem keepH {W W' : World} {p : Addr} {x : Value} (h : W.cell? p = some x) (b : Below W.heap.size W W') : W'.cell? p = some x := by
  rw [b.cell (World.block_lt_of_cell? W p h)]; exact h

set_option maxRecDepth 1000000 in
set_option maxHeartbeats 1000000 in
theorem to_head (w : World) (h : Hd) :
    Calls Tryd.prog 42 #[.agg #[.int .i64 h.n, .string h.r]] w fun e w' => e = .returned (.agg #[.int .i64 h.n, .string h.r]) ∧ Below w.heap.size w w' := by
  have HB : Hid (Below w.heap.size w (((w.alloc (.cells #[.int .i64 h.n, .string h.r] 34)).alloc (.cells #[.int .i64 0, .string ⟨#[]⟩] 24)).alloc (.cells #[.int .i64 h.n, .string h.r] 24))) := (((Below.refl _ _).alloc (Nat.le_refl _) _).alloc (by simp) _).alloc (by simp; omega) _
  have HR1 : Hid ((((w.alloc (.cells #[.int .i64 h.n, .string h.r] 34)).alloc (.cells #[.int .i64 0, .string ⟨#[]⟩] 24)).alloc (.cells #[.int .i64 h.n, .string h.r] 24)).heap[w.heap.size + 1]? = some (.cells #[.int .i64 0, .string ⟨#[]⟩] 24 (0, 0))) := by
    show _ = _
    rw [heap_alloc_old _ _ (by simp)]
    have := heap_alloc_new (w.alloc (.cells #[.int .i64 h.n, .string h.r] 34)) (.cells #[.int .i64 0, .string ⟨#[]⟩] 24)
    simpa using this
  have HR2 : Hid ((((w.alloc (.cells #[.int .i64 h.n, .string h.r] 34)).alloc (.cells #[.int .i64 0, .string ⟨#[]⟩] 24)).alloc (.cells #[.int .i64 h.n, .string h.r] 24)).heap[w.heap.size + 1 + 1]? = some (.cells (hc h) 24 (0, 0))) := by
    show _ = _
    have := heap_alloc_new ((w.alloc (.cells #[.int .i64 h.n, .string h.r] 34)).alloc (.cells #[.int .i64 0, .string ⟨#[]⟩] 24)) (.cells #[.int .i64 h.n, .string h.r] 24)
    simpa [hc] using this
  go_enter Tryd.func42, Tryd.ntmps42
  go_wp2_with (first | (refine wpList_load_row rfl 24 _ rfl (w.heap.size + 1 + 1) rfl 24 (hc h) (0, 0) _ HR2.out Tryd.underlying24 rfl (sizeH h) ?_) | (refine wpList_store_row rfl 24 _ _ rfl (w.heap.size + 1) (hc h) rfl rfl 24 _ HR1.out (sizeH h) rfl (oneH h) ?_))
  exact bodyPost_ret (v := .agg (hc h)) (results_cell_row rfl _ _ (w.heap.size + 1) 24 _ (0, 0) _ rfl (setRow_heap _ _ _ _ _ (0, 0) HR1.out) Tryd.underlying24 rfl (sizeH h)) rfl ⟨rfl, below_setRow HB.out (by omega) _⟩

set_option maxRecDepth 1000000 in
set_option maxHeartbeats 1000000 in
theorem sz_head (w : World) (n : Hd) (left : Int) (hp : n.r.size ≤ 9223372036854775807) (h0 : 0 ≤ left) (h1 : left ≤ 1048576) :
    Calls Tryd.prog 39 #[.agg #[.int .i64 n.n, .string n.r], .int .i64 left] w fun e w' => e = .returned (.int .i64 (if left - n.r.size < 0 then -1 else left - n.r.size)) ∧ Below w.heap.size w w' := by
  have HB : Hid (Below w.heap.size w (w.alloc (.cells #[.int .i64 n.n, .string n.r] 34))) := (Below.refl _ _).alloc (Nat.le_refl _) _
  by_cases hb : left - (n.r.size : Int) < 0
  · have HN : Hid ((if left - n.r.size < 0 then -1 else left - n.r.size) = (-1 : Int)) := by show _ = _; rw [if_pos hb]
    go_enter Tryd.func39, Tryd.ntmps39
    go_wp2
    go_ret
    exact ⟨by first | rfl | (rw [HN.out]; rfl), HB.out⟩
  · have HN : Hid ((if left - n.r.size < 0 then -1 else left - n.r.size) = left - n.r.size) := by show _ = _; rw [if_neg hb]
    go_enter Tryd.func39, Tryd.ntmps39
    go_wp2
    go_ret
    exact ⟨by first | rfl | (rw [HN.out]; rfl), HB.out⟩

theorem infoH : (Tryd.prog.info? 24).map (fun i => (i.zero, i.size, i.bytes)) = some (some (.agg #[.int .i64 0, .string ⟨#[]⟩]), 2, 24) := by kernel_rfl

set_option maxRecDepth 1000000 in
set_option maxHeartbeats 1000000 in
theorem eq_head (w : World) (h : Hd) :
    Calls Tryd.prog 35 #[.agg #[.int .i64 h.n, .string h.r], .agg #[.int .i64 h.n, .string h.r]] w fun e w' => e = .returned (.bool true) ∧ Below w.heap.size w w' := by
  have HB : Hid (Below w.heap.size w ((w.alloc (.cells #[.int .i64 h.n, .string h.r] 24)).alloc (.cells #[.int .i64 h.n, .string h.r] 24))) := ((Below.refl _ _).alloc (Nat.le_refl _) _).alloc (by simp) _
  have n1 : (h.r.toList == h.r.toList) = true := by simp
  have n2 : (h.n != h.n) = false := by simp
  go_enter Tryd.func35, Tryd.ntmps35
  go_wp2
  go_ret
  exact ⟨rfl, HB.out⟩

end Go.Proofs.YtfpaichdkddglabDoor.He

/- Chapter 10, the specification's side: heads that are right, signed, the best. -/
namespace Go.Proofs.YtfpaichdkddglabDoor.He
open Go.RowKit Go.Proofs.YtfpaichdkddglabDoor.Mem Go.Proofs.YtfpaichdkddglabDoor.Laws Go.Proofs.YtfpaichdkddglabDoor.Bytes Go.Proofs.YtfpaichdkddglabDoor.Sha Go.Proofs.YtfpaichdkddglabDoor.Tr
set_option linter.unusedVariables false
set_option linter.unusedSimpArgs false

set_option maxRecDepth 1000000 in
set_option maxHeartbeats 1000000 in
theorem ok_spec (w : World) (h : Hd) : Calls Tryd.prog 53 #[.agg #[.int .i64 h.n, .string h.r]] w fun e w' => e = .returned (.bool (okH h)) ∧ Below w.heap.size w w' := by
  have HB : Hid (Below w.heap.size w (w.alloc (.cells #[.int .i64 h.n, .string h.r] 24))) := (Below.refl _ _).alloc (Nat.le_refl _) _
  by_cases hn : 0 ≤ h.n ∧ h.n ≤ 200
  · have q := in6t (w.alloc (.cells #[.int .i64 h.n, .string h.r] 24)) hn
    obtain ⟨t, ht⟩ : ∃ t, ((h.r.size : Int) == 32) = t := ⟨_, rfl⟩
    have HN : Hid (okH h = t) := by
      show _ = _
      rw [← ht]
      unfold okH
      by_cases h32 : h.r.size = 32
      · rw [decide_eq_true ⟨hn, h32⟩, h32]; rfl
      · rw [decide_eq_false (fun c => h32 c.2)]
        exact (beq_eq_false_iff_ne.2 (by omega)).symm
    clear hn
    go_enter Tryd.func53, Tryd.ntmps53
    go_wp2_with fail
    refine q.mono ?_
    rintro e w1 ⟨rfl, rfl⟩
    go_wp2
    go_ret
    exact ⟨by rw [HN.out]; rfl, HB.out⟩
  · have q := in6f (w.alloc (.cells #[.int .i64 h.n, .string h.r] 24)) hn
    have HN : Hid (okH h = false) := by show _ = _; unfold okH; rw [decide_eq_false (fun c => hn c.1)]
    clear hn
    go_enter Tryd.func53, Tryd.ntmps53
    go_wp2_with fail
    refine q.mono ?_
    rintro e w1 ⟨rfl, rfl⟩
    go_wp2
    go_ret
    exact ⟨by rw [HN.out]; rfl, HB.out⟩

theorem signed_snoc {t : List Hd} {k : Nat} {x : Hd} (hx : t[k]? = some x) (h : Hd) : signed (t.take (k + 1)) h = (signed (t.take k) h || eqH x h) := by
  unfold signed
  rw [List.take_add_one, hx]
  simp
theorem signed_yes {t : List Hd} {k : Nat} {x h : Hd} (hx : t[k]? = some x) (he : eqH x h = true) : signed t h = true := by
  unfold signed
  rw [List.any_eq_true]
  exact ⟨x, List.mem_of_getElem? hx, he⟩

theorem bestF_snoc (b : Hd) (r : List Hd) (x : Hd) : bestF b (r ++ [x]) = if (bestF b r).n < x.n then x else bestF b r := by
  induction r generalizing b with
  | nil => rfl
  | cons y r ih =>
    simp only [List.cons_append, bestF]
    split
    · exact ih y
    · exact ih b

end Go.Proofs.YtfpaichdkddglabDoor.He

/- Chapter 10: the head of texts (the specification's side). -/
namespace Go.Proofs.YtfpaichdkddglabDoor.He
open Go.RowKit Go.Proofs.YtfpaichdkddglabDoor.Mem Go.Proofs.YtfpaichdkddglabDoor.Laws Go.Proofs.YtfpaichdkddglabDoor.Bytes Go.Proofs.YtfpaichdkddglabDoor.Sha Go.Proofs.YtfpaichdkddglabDoor.Tr
set_option linter.unusedVariables false
set_option linter.unusedSimpArgs false

set_option maxRecDepth 1000000 in
set_option maxHeartbeats 1000000 in
theorem headOf_spec (w : World) (v : Value) (l : List ByteArray) (h : Sl w v (ss l)) (hl : l.length ≤ 1000000000000) (hz : ∀ s ∈ l, s.size ≤ 10000000000) :
    Calls Tryd.prog 32 #[v] w fun e w' => e = .returned (.agg #[.int .i64 (headOf l).n, .string (headOf l).r]) ∧ Below w.heap.size w w' := by
  have HR : Hid ((w.alloc (.cells #[.int .i64 0, .string ⟨#[]⟩] 24)).heap[w.heap.size]? = some (.cells (hc hd0) 24 (0, 0))) := heap_alloc_new w _
  have HB : Hid (Below w.heap.size w (w.alloc (.cells #[.int .i64 0, .string ⟨#[]⟩] 24))) := (Below.refl _ _).alloc (Nat.le_refl _) _
  by_cases h2 : l.length ≤ 200
  · have q := root_any l.length l (Nat.le_refl _) (w.alloc (.cells #[.int .i64 0, .string ⟨#[]⟩] 24)) v (h.later HB.out) (by omega) hz
    obtain ⟨M, hM⟩ : ∃ M, headOf l = M := ⟨_, rfl⟩
    have hM2 : M = ⟨l.length, root l⟩ := by rw [← hM]; unfold headOf; rw [if_pos h2]
    obtain ⟨ao, cap, rfl, hcap, _⟩ := h
    have d2 : ¬ (200 : Int) < (l.length : Int) := by omega
    obtain ⟨x, hx⟩ : ∃ x, root l = x := ⟨_, rfl⟩
    rw [hx] at q hM2
    rw [hM, hM2]
    rw [ss_len] at *
    clear hx hM hM2 hz
    go_enter Tryd.func32, Tryd.ntmps32
    go_wp2_with fail
    refine q.mono ?_
    rintro e w1 ⟨rfl, b1⟩
    have R1 := rowKeep HR.out b1
    have B1 : Below w.heap.size w w1 := HB.out.trans (b1.mono HB.out.size)
    clear q HR b1
    go_wp2_with (refine wpList_store_row rfl 24 _ _ rfl w.heap.size (hc (⟨(l.length : Int), x⟩ : Hd)) rfl rfl 24 _ R1 (sizeH (⟨(l.length : Int), x⟩ : Hd)) rfl (oneH (⟨(l.length : Int), x⟩ : Hd)) ?_)
    exact bodyPost_ret (v := .agg (hc ⟨(l.length : Int), x⟩)) (results_cell_row rfl _ _ w.heap.size 24 _ (0, 0) _ rfl (setRow_heap _ _ _ _ _ (0, 0) R1) Tryd.underlying24 rfl (sizeH _)) rfl ⟨rfl, below_setRow B1 (Nat.le_refl _) _⟩
  · have d2 : (200 : Int) < (l.length : Int) := by omega
    have hM : headOf l = hd0 := by unfold headOf; rw [if_neg h2]
    rw [hM]
    obtain ⟨ao, cap, rfl, hcap, _⟩ := h
    rw [ss_len]
    clear hz hM
    go_enter Tryd.func32, Tryd.ntmps32
    go_wp2_with (refine wpList_store_row rfl 24 _ _ rfl w.heap.size (hc hd0) rfl rfl 24 _ HR.out (sizeH hd0) rfl (oneH hd0) ?_)
    exact bodyPost_ret (v := .agg (hc hd0)) (results_cell_row rfl _ _ w.heap.size 24 _ (0, 0) _ rfl (setRow_heap _ _ _ _ _ (0, 0) HR.out) Tryd.underlying24 rfl (sizeH hd0)) rfl ⟨rfl, below_setRow HB.out (Nat.le_refl _) _⟩

theorem headOf_size (l : List ByteArray) : (headOf l).r.size ≤ 32 := by
  unfold headOf
  split
  · simp only [root_size]; exact Nat.le_refl _
  · exact Nat.zero_le _

end Go.Proofs.YtfpaichdkddglabDoor.He

/- Chapter 12: commits as bytes and back, what a store holds; plain facts alone. -/
namespace Go.Proofs.YtfpaichdkddglabDoor.Sr
open Go.RowKit Go.Proofs.YtfpaichdkddglabDoor.Mem Go.Proofs.YtfpaichdkddglabDoor.Laws Go.Proofs.YtfpaichdkddglabDoor.Sha Go.Proofs.YtfpaichdkddglabDoor.Tr Go.Proofs.YtfpaichdkddglabDoor.He
set_option linter.unusedVariables false
set_option linter.unusedSimpArgs false

/-- the body of a commit, its sum, its bytes -/
def body (h : Hd) (x : List ByteArray) : List Int := Puts.num h.n ++ Puts.tx h.r ++ (Puts.num (x.length : Int) ++ Puts.txs x)
def sum4 (b : List Int) : List Int := (digest b).take 4
def put (h : Hd) (x : List ByteArray) : List Int := Puts.num ((body h x).length : Int) ++ (body h x ++ sum4 (body h x))
def putC (h : Hd) (x : List ByteArray) : List Int := if okH h = true ∧ 1 ≤ x.length ∧ x.length ≤ 200 then put h x else []
theorem txs_byt : ∀ l : List ByteArray, Byt (Puts.txs l) := by
  intro l
  induction l with
  | nil => intro x hx; cases hx
  | cons s r ih => exact (Puts.tx_byt s).app ih
theorem body_byt (h : Hd) (x : List ByteArray) : Byt (body h x) := ((Puts.num_byt _).app (Puts.tx_byt _)).app ((Puts.num_byt _).app (txs_byt _))
theorem sum4_byt (b : List Int) : Byt (sum4 b) := fun x hx => digest_byt b x (List.mem_of_mem_take hx)
theorem sum4_len (b : List Int) : (sum4 b).length = 4 := by unfold sum4; rw [List.length_take, digest_len]; rfl
theorem put_byt (h : Hd) (x : List ByteArray) : Byt (put h x) := (Puts.num_byt _).app ((body_byt _ _).app (sum4_byt _))
theorem putC_byt (h : Hd) (x : List ByteArray) : Byt (putC h x) := by
  unfold putC
  split
  · exact put_byt h x
  · intro y hy; cases hy
theorem body_len (h : Hd) (x : List ByteArray) : (body h x).length ≤ h.r.size + 15 + 5 * x.length + Puts.tot x := by
  have h1 := Puts.tx_len h.r
  have h2 := Puts.txs_len x
  have h3 := (Puts.num_len h.n).2
  have h4 := (Puts.num_len (x.length : Int)).2
  unfold body
  simp only [List.length_append]
  omega
theorem put_len (h : Hd) (x : List ByteArray) : (put h x).length ≤ (body h x).length + 9 := by
  have h3 := (Puts.num_len ((body h x).length : Int)).2
  have h4 := sum4_len (body h x)
  unfold put
  simp only [List.length_append]
  omega
theorem put_pos (h : Hd) (x : List ByteArray) : 5 ≤ (put h x).length := by
  have h3 := (Puts.num_len ((body h x).length : Int)).1
  have h4 := sum4_len (body h x)
  unfold put
  simp only [List.length_append]
  omega

/-- no commit -/
def no12 (a : Int) : Hd × List ByteArray × Int × Bool := (hd0, [], a, false)
/-- what stands in a body: head and texts, if it is right -/
def inBody (b : List Int) : Option (Hd × List ByteArray) :=
  if (Plain.getNum b 0).2.2 = true ∧ (Plain.getText b (Plain.getNum b 0).2.1).2.2 = true ∧ (Plain.getTexts b (Plain.getText b (Plain.getNum b 0).2.1).2.1).2.2 = true ∧
      (Plain.getTexts b (Plain.getText b (Plain.getNum b 0).2.1).2.1).2.1 = (b.length : Int) ∧ okH ⟨(Plain.getNum b 0).1, (Plain.getText b (Plain.getNum b 0).2.1).1⟩ = true ∧
      ¬ (Plain.getTexts b (Plain.getText b (Plain.getNum b 0).2.1).2.1).1.length = 0
  then some (⟨(Plain.getNum b 0).1, (Plain.getText b (Plain.getNum b 0).2.1).1⟩, (Plain.getTexts b (Plain.getText b (Plain.getNum b 0).2.1).2.1).1)
  else none
/-- the commit at a place -/
def getC (xs : List Int) (a : Int) : Hd × List ByteArray × Int × Bool :=
  if (Plain.getNum xs a).2.2 = true ∧ (Plain.getNum xs a).1 ≤ (xs.length : Int) - (Plain.getNum xs a).2.1 - 4 then
    match inBody ((xs.drop (Plain.getNum xs a).2.1.toNat).take (Plain.getNum xs a).1.toNat) with
    | some (h, x) =>
      if (xs.drop ((Plain.getNum xs a).2.1.toNat + (Plain.getNum xs a).1.toNat)).take 4 = sum4 ((xs.drop (Plain.getNum xs a).2.1.toNat).take (Plain.getNum xs a).1.toNat) then
        (h, x, (Plain.getNum xs a).2.1 + (Plain.getNum xs a).1 + 4, true)
      else no12 a
    | none => no12 a
  else no12 a
theorem okH_parts {h : Hd} (hk : okH h = true) : 0 ≤ h.n ∧ h.n ≤ 200 ∧ h.r.size = 32 := by
  unfold okH at hk
  simp only [decide_eq_true_eq] at hk
  exact ⟨hk.1.1, hk.1.2, hk.2⟩
/-- a body that was made is read -/
theorem inBody_body {h : Hd} {x : List ByteArray} (hk : okH h = true) (h1 : 1 ≤ x.length) (h2 : x.length ≤ 200) (hs : ∀ s ∈ x, s.size ≤ 1000000000) : inBody (body h x) = some (h, x) := by
  obtain ⟨k0, k1, k2⟩ := okH_parts hk
  have e1 : Plain.getNum (body h x) 0 = (h.n, ((Puts.num h.n).length : Int), true) := by
    have g := Plain.getNum_back [] (Puts.tx h.r ++ (Puts.num (x.length : Int) ++ Puts.txs x)) h.n
    have e : body h x = [] ++ (Puts.num h.n ++ (Puts.tx h.r ++ (Puts.num (x.length : Int) ++ Puts.txs x))) := by unfold body; simp only [List.append_assoc, List.nil_append]
    have ec : Plain.clampN h.n = h.n := by unfold Plain.clampN; rw [if_neg (by omega), if_neg (by omega)]
    rw [e]
    simpa [ec] using g
  have e2 : Plain.getText (body h x) ((Puts.num h.n).length : Int) = (h.r, (((Puts.num h.n).length + (Puts.tx h.r).length : Nat) : Int), true) := by
    have g := Plain.getText_back (Puts.num h.n) (Puts.num (x.length : Int) ++ Puts.txs x) h.r (by omega)
    have e : body h x = Puts.num h.n ++ (Puts.tx h.r ++ (Puts.num (x.length : Int) ++ Puts.txs x)) := by unfold body; simp only [List.append_assoc]
    rw [e, g]
    simp
  have e3 : Plain.getTexts (body h x) (((Puts.num h.n).length + (Puts.tx h.r).length : Nat) : Int) = (x, ((body h x).length : Int), true) := by
    have g := Plain.getTexts_back (Puts.num h.n ++ Puts.tx h.r) [] x h2 hs
    have e : body h x = (Puts.num h.n ++ Puts.tx h.r ++ Puts.num (x.length : Int) ++ Puts.txs x) ++ [] := by unfold body; simp only [List.append_assoc, List.append_nil]
    rw [List.length_append] at g
    rw [e, g]
    simp
  unfold inBody
  rw [e1]
  simp only
  rw [e2]
  simp only
  rw [e3]
  simp only
  rw [if_pos ⟨trivial, trivial, trivial, trivial, hk, by omega⟩]
theorem size_txs {t : ByteArray} : ∀ l : List ByteArray, t ∈ l → t.size ≤ (Puts.txs l).length := by
  intro l
  induction l with
  | nil => intro h; cases h
  | cons a r ih =>
    intro h
    simp only [Puts.txs, List.length_append]
    rcases List.mem_cons.1 h with rfl | h
    · have : (Puts.tx t).length = (Puts.num (t.size : Int)).length + t.size := by unfold Puts.tx; rw [List.length_append, sb_len]
      omega
    · have := ih h; omega
/-- what is read of a body was made so -/
theorem body_inBody {b : List Int} {h : Hd} {x : List ByteArray} (hb : Byt b) (hi : inBody b = some (h, x)) : b = body h x ∧ okH h = true ∧ 1 ≤ x.length ∧ x.length ≤ 200 ∧ ∀ s ∈ x, s.size ≤ b.length := by
  unfold inBody at hi
  split at hi
  · rename_i hc
    simp only [Option.some.injEq, Prod.mk.injEq] at hi
    obtain ⟨n, p, ok, hg⟩ : ∃ n p ok, Plain.getNum b 0 = (n, p, ok) := ⟨_, _, _, rfl⟩
    rw [hg] at hi hc
    simp only at hi hc
    obtain ⟨r, q, ok2, hg2⟩ : ∃ r q ok, Plain.getText b p = (r, q, ok) := ⟨_, _, _, rfl⟩
    rw [hg2] at hi hc
    simp only at hi hc
    obtain ⟨l, s, ok3, hg3⟩ : ∃ l s ok, Plain.getTexts b q = (l, s, ok) := ⟨_, _, _, rfl⟩
    have hlen := Plain.getTexts_len b q
    rw [hg3] at hi hc hlen
    simp only at hi hc hlen
    obtain ⟨rfl, rfl, rfl, hs, hk, hl⟩ := hc
    obtain ⟨rfl, rfl⟩ := hi
    obtain ⟨p', rfl, _, hn9, _, hd⟩ := Can.getNum_canon (a := 0) hb hg
    obtain ⟨q', rfl, _, hd2⟩ := Can.getText_canon hb hg2
    obtain ⟨s', hs', hd3⟩ := Can.getTexts_canon hb hg3
    have es : s' = b.length := by omega
    rw [es, List.drop_of_length_le (Nat.le_refl _), List.append_nil] at hd3
    rw [List.drop_zero] at hd
    have eb : b = body ⟨n, r⟩ l := by
      conv => lhs; rw [hd, hd2, hd3]
      unfold body
      simp only [List.append_assoc]
    refine ⟨eb, hk, by omega, hlen, ?_⟩
    intro t ht
    have h5 := size_txs l ht
    rw [eb]
    unfold body
    simp only [List.length_append]
    omega
  · cases hi

theorem size_body {h : Hd} {x : List ByteArray} {t : ByteArray} (ht : t ∈ x) : t.size ≤ (body h x).length := by
  have := size_txs x ht
  unfold body
  simp only [List.length_append]
  omega
/-- what is got of a commit whose last four bytes are any -/
theorem get_sum (ys r s4 : List Int) {h : Hd} {x : List ByteArray} (hk : okH h = true) (h1 : 1 ≤ x.length) (h2 : x.length ≤ 200) (hl : (body h x).length ≤ 1000000000) (h4 : s4.length = 4) :
    getC (ys ++ (Puts.num ((body h x).length : Int) ++ (body h x ++ s4) ++ r)) (ys.length : Int) = if s4 = sum4 (body h x) then (h, x, ((ys.length + (put h x).length : Nat) : Int), true) else no12 (ys.length : Int) := by
  have hi := inBody_body hk h1 h2 (fun s h' => Nat.le_trans (size_body (h := h) h') hl)
  have e0 : (put h x).length = (Puts.num ((body h x).length : Int)).length + (body h x).length + 4 := by unfold put; simp only [List.length_append, sum4_len]; omega
  obtain ⟨B, hB⟩ : ∃ B, body h x = B := ⟨_, rfl⟩
  rw [hB] at hi hl e0 ⊢
  obtain ⟨N, hN⟩ : ∃ N, Puts.num (B.length : Int) = N := ⟨_, rfl⟩
  have g := Plain.getNum_back ys ((B ++ s4) ++ r) (B.length : Int)
  rw [Plain.clamp_size hl] at g
  rw [hN] at g e0 ⊢
  have e : ys ++ ((N ++ (B ++ s4)) ++ r) = ys ++ (N ++ ((B ++ s4) ++ r)) := by simp only [List.append_assoc]
  rw [e]
  have g2 : Plain.getNum (ys ++ (N ++ ((B ++ s4) ++ r))) (ys.length : Int) = ((B.length : Int), ((ys.length + N.length : Nat) : Int), true) := by rw [g]; simp
  have ed : (ys ++ (N ++ ((B ++ s4) ++ r))).drop (ys.length + N.length) = B ++ (s4 ++ r) := by
    rw [← List.append_assoc, List.drop_append, List.drop_eq_nil_of_le (by simp), List.nil_append, show ys.length + N.length - (ys ++ N).length = 0 by simp, List.drop_zero, List.append_assoc]
  have et : (B ++ (s4 ++ r)).take B.length = B := by rw [List.take_append_of_le_length (Nat.le_refl _), List.take_of_length_le (Nat.le_refl _)]
  have ed2 : (ys ++ (N ++ ((B ++ s4) ++ r))).drop (ys.length + N.length + B.length) = s4 ++ r := by
    rw [← List.drop_drop, ed, List.drop_append, List.drop_eq_nil_of_le (Nat.le_refl _), Nat.sub_self, List.drop_zero, List.nil_append]
  have et2 : (s4 ++ r).take 4 = s4 := by rw [List.take_append_of_le_length (by omega), List.take_of_length_le (by omega)]
  have hlen : (ys ++ (N ++ ((B ++ s4) ++ r))).length = ys.length + N.length + B.length + 4 + r.length := by
    simp only [List.length_append]; omega
  unfold getC
  rw [g2]
  simp only [Int.toNat_natCast]
  rw [if_pos ⟨trivial, by rw [hlen]; omega⟩, ed, et, hi]
  simp only
  rw [ed2, et2]
  split
  · simp only [e0, Prod.mk.injEq, true_and, and_true]
    omega
  · rfl
/-- a commit that was put is got back, wherever it stands -/
theorem get_put (ys r : List Int) {h : Hd} {x : List ByteArray} (hk : okH h = true) (h1 : 1 ≤ x.length) (h2 : x.length ≤ 200) (hl : (body h x).length ≤ 1000000000) :
    getC (ys ++ (put h x ++ r)) (ys.length : Int) = (h, x, ((ys.length + (put h x).length : Nat) : Int), true) := by
  have g := get_sum ys r (sum4 (body h x)) hk h1 h2 hl (sum4_len _)
  rw [if_pos rfl] at g
  exact g
/-- what is got was put there -/
theorem put_get {xs : List Int} {a : Nat} {h : Hd} {x : List ByteArray} {p : Int} (hb : Byt xs) (hg : getC xs (a : Int) = (h, x, p, true)) :
    ∃ q : Nat, p = (q : Int) ∧ q = a + (put h x).length ∧ q ≤ xs.length ∧ okH h = true ∧ 1 ≤ x.length ∧ x.length ≤ 200 ∧ (body h x).length ≤ 1000000000 ∧ xs.drop a = put h x ++ xs.drop q := by
  unfold getC at hg
  split at hg
  · rename_i hc
    obtain ⟨n, p', ok, hn⟩ : ∃ n p ok, Plain.getNum xs (a : Int) = (n, p, ok) := ⟨_, _, _, rfl⟩
    rw [hn] at hg hc
    simp only at hg hc
    obtain ⟨rfl, hc⟩ := hc
    obtain ⟨q', rfl, hn0, hn9, ha, hd⟩ := Can.getNum_canon hb hn
    obtain ⟨m, rfl⟩ : ∃ m : Nat, n = (m : Int) := ⟨n.toNat, by omega⟩
    simp only [Int.toNat_natCast] at hg
    split at hg
    · rename_i h' x' hi
      split at hg
      · rename_i h4
        simp only [Prod.mk.injEq, and_true] at hg
        obtain ⟨rfl, rfl, rfl⟩ := hg
        obtain ⟨hbd, hk, h1, h2, hs⟩ := body_inBody (fun y hy => hb y (List.mem_of_mem_drop (List.mem_of_mem_take hy))) hi
        have hbl : ((xs.drop q').take m).length = m := by rw [List.length_take, List.length_drop]; omega
        have hd2 : xs.drop a = put h' x' ++ xs.drop (q' + m + 4) := by
          rw [hd]
          unfold put
          rw [← hbd, hbl, ← h4, List.append_assoc, List.append_assoc]
          congr 1
          rw [← List.drop_drop (i := 4), List.take_append_drop, ← List.drop_drop, List.take_append_drop]
        have hl := congrArg List.length hd2
        simp only [List.length_append, List.length_drop] at hl
        refine ⟨q' + m + 4, by omega, by omega, by omega, hk, h1, h2, by rw [← hbd, hbl]; omega, hd2⟩
      · simp [no12] at hg
    · simp [no12] at hg
  · simp [no12] at hg
/-- what is got of a beginning is got of all -/
theorem get_front {xs : List Int} {k a : Nat} {h : Hd} {x : List ByteArray} {p : Int} (hb : Byt xs) (hg : getC (xs.take k) (a : Int) = (h, x, p, true)) : getC xs (a : Int) = (h, x, p, true) := by
  have hb2 : Byt (xs.take k) := fun y hy => hb y (List.mem_of_mem_take hy)
  obtain ⟨q, rfl, hq, hqx, hk, h1, h2, hbl, hd⟩ := put_get hb2 hg
  have hp5 := put_pos h x
  have hqk : q ≤ xs.length := by rw [List.length_take] at hqx; omega
  have e : xs = xs.take a ++ (put h x ++ (xs.take k).drop q ++ xs.drop k) := by
    rw [← hd]
    have e1 : xs.take a = (xs.take k).take a := by rw [List.take_take]; congr 1; rw [List.length_take] at hqx; omega
    rw [e1, ← List.append_assoc, List.take_append_drop, List.take_append_drop]
  have ea : (xs.take a).length = a := by rw [List.length_take]; omega
  have g := get_put (xs.take a) ((xs.take k).drop q ++ xs.drop k) hk h1 h2 hbl
  rw [← List.append_assoc (put h x), ← e, ea, ← hq] at g
  exact g
/-- a place that is none -/
theorem getC_out {xs : List Int} {a : Int} (h : a < 0 ∨ (xs.length : Int) ≤ a) : getC xs a = no12 a := by
  unfold getC
  rw [Gets.getNum_out h, if_neg]
  rintro ⟨h1, _⟩
  cases h1
theorem getC_no {xs : List Int} {a : Int} (h : (getC xs a).2.2.2 = false) : getC xs a = no12 a := by
  unfold getC at h ⊢
  split at h
  · rename_i hc
    rw [if_pos hc]
    split at h
    · rename_i h' x' hi
      split at h
      · cases h
      · rename_i h4
        rw [if_neg h4]
    · rfl
  · rename_i hc
    rw [if_neg hc]

end Go.Proofs.YtfpaichdkddglabDoor.Sr

/- Chapter 11: logs as cells; the specification's side: a new log, what is right, a copy. -/
namespace Go.Proofs.YtfpaichdkddglabDoor.Lg
open Go.RowKit Go.Proofs.YtfpaichdkddglabDoor.Mem Go.Proofs.YtfpaichdkddglabDoor.Laws Go.Proofs.YtfpaichdkddglabDoor.Bytes Go.Proofs.YtfpaichdkddglabDoor.Sha Go.Proofs.YtfpaichdkddglabDoor.Tr Go.Proofs.YtfpaichdkddglabDoor.He
set_option linter.unusedVariables false
set_option linter.unusedSimpArgs false

/-- a log's cells: its texts, and its head -/
def lc (v : Value) (h : Hd) : Array Value := #[v, .int .i64 h.n, .string h.r]

theorem sizeL (v : Value) (h : Hd) : (Tryd.prog.info? 26).map (·.size) = some (lc v h).size := by
  show _ = some 3
  kernel_rfl

theorem oneL {v : Value} (h : Hd) (hv : v.oneCell' = true) : (lc v h).all (·.oneCell') = true := by
  simp [lc, Value.oneCell']
  exact hv
/-- what LogOk answers -/
def logOk (l : List ByteArray) (h : Hd) : Bool := decide (l.length ≤ 200) && eqH h (headOf l)
theorem logOk_yes {l : List ByteArray} {h : Hd} (hk : logOk l h = true) : l.length ≤ 200 ∧ h = headOf l := by
  unfold logOk at hk
  simp only [Bool.and_eq_true, decide_eq_true_eq] at hk
  exact ⟨hk.1, (eqH_iff _ _).1 hk.2⟩
theorem logOk_of {l : List ByteArray} (hl : l.length ≤ 200) : logOk l (headOf l) = true := by
  unfold logOk
  simp only [Bool.and_eq_true, decide_eq_true_eq]
  exact ⟨hl, (eqH_iff _ _).2 rfl⟩

set_option maxRecDepth 1000000 in
set_option maxHeartbeats 1000000 in
theorem lognew_spec (w : World) : Calls Tryd.prog 14 #[] w fun e w' => e = .returned (.agg #[.slice none 0 0, .int .i64 (headOf []).n, .string (headOf []).r]) ∧ Below w.heap.size w w' := by
  obtain ⟨W, hW⟩ : ∃ W, W = (w.alloc (.cells (lc (.slice none 0 0) hd0) 26)).alloc (.cells #[] 9) := ⟨_, rfl⟩
  have HB : Hid (Below w.heap.size w W) := by
    show Below _ _ _
    rw [hW]
    exact ((Below.refl _ _).alloc (Nat.le_refl _) _).alloc (by simp) _
  have HR : Hid (W.heap[w.heap.size]? = some (.cells (lc (.slice none 0 0) hd0) 26 (0, 0))) := by show _ = _; rw [hW]; exact heap_alloc2_old w _ _
  have q : ∀ v, Sl W v (ss []) → _ := fun v hv => headOf_spec W v [] hv (by simp) (by simp)
  have q1 := q (.slice (some ⟨w.heap.size + 1, 0, none⟩) 0 0) (by
    have h := (emptyT (w.alloc (.cells (lc (.slice none 0 0) hd0) 26)) 0 (Nat.zero_le _)).sl
    rw [hW]
    simpa using h)
  obtain ⟨M, hM⟩ : ∃ M, headOf [] = M := ⟨_, rfl⟩
  rw [hM] at q1 ⊢
  rw [hW] at q1
  have HW : Hid (W = _) := hW
  clear hW hM q
  unfold lc hd0 at q1
  go_enter Tryd.func14, Tryd.ntmps14
  go_wp2_with fail
  refine q1.mono ?_
  rintro e w1 ⟨rfl, b1⟩
  have hW := HW.out
  unfold lc hd0 at hW
  rw [← hW] at b1
  have R1 := rowKeep HR.out b1
  have B1 : Below w.heap.size w w1 := HB.out.trans (b1.mono HB.out.size)
  clear q1 HW hW b1 HR HB
  go_wp2_with (refine wpList_store_row rfl 26 _ _ rfl w.heap.size (lc (.slice none 0 0) M) rfl rfl 26 _ R1 (sizeL _ _) rfl (oneL _ rfl) ?_)
  exact bodyPost_ret (v := .agg (lc (.slice none 0 0) M)) (results_cell_row rfl _ _ w.heap.size 26 _ (0, 0) _ rfl (setRow_heap _ _ _ _ _ (0, 0) R1) Tryd.underlying26 rfl (sizeL _ _)) rfl ⟨rfl, below_setRow B1 (Nat.le_refl _) _⟩

set_option maxRecDepth 1000000 in
set_option maxHeartbeats 2000000 in
theorem logok_spec (w : World) (v : Value) (l : List ByteArray) (h : Hd) (hs : Sl w v (ss l)) (hl : l.length ≤ 1000000000000) (hz : ∀ s ∈ l, s.size ≤ 10000000000) :
    Calls Tryd.prog 24 #[.agg #[v, .int .i64 h.n, .string h.r]] w fun e w' => e = .returned (.bool (logOk l h)) ∧ Below w.heap.size w w' := by
  have hs0 := hs
  obtain ⟨ao, cap, rfl, hcap⟩ := hs.form
  rw [ss_len] at *
  obtain ⟨W, hW, r0, HB⟩ : ∃ W, Hid (w.alloc (.cells #[.slice ao l.length cap, .int .i64 h.n, .string h.r] 26) = W) ∧ W.heap[w.heap.size]? = some (.cells (lc (.slice ao l.length cap) h) 26 (0, 0)) ∧ Hid (Below w.heap.size w W) := ⟨_, rfl, heap_alloc_new w _, (Below.refl _ _).alloc (Nat.le_refl _) _⟩
  have c0 : W.cell? ⟨w.heap.size, 0, none⟩ = some (.slice ao l.length cap) := row_at r0 0
  have c1 : W.cell? ⟨w.heap.size, 1, none⟩ = some (.int .i64 h.n) := row_at r0 1
  have c2 : W.cell? ⟨w.heap.size, 2, none⟩ = some (.string h.r) := row_at r0 2
  have q := headOf_spec W.drew _ l (hs0.later (Below.drew HB.out)) hl hz
  have e1 : ∀ W', _ := fun W' => eqlH W' h (headOf l)
  have e2 : ∀ W' op x y xs ys, _ := fun W' op x y xs ys => grdH W' op x y xs ys
  have HN : Hid (logOk l h = (decide (l.length ≤ 200) && eqH h (headOf l))) := rfl
  obtain ⟨M, hM⟩ : ∃ M, headOf l = M := ⟨_, rfl⟩
  rw [hM] at q HN
  simp only [hM] at e1
  obtain ⟨B, hB⟩ : ∃ B, eqH h M = B := ⟨_, rfl⟩
  rw [hB] at HN
  simp only [hB] at e1
  obtain ⟨A, hA⟩ : ∃ A, logOk l h = A := ⟨_, rfl⟩
  rw [hA] at HN ⊢
  clear hM hB hA hs hs0 r0 hz
  by_cases h2 : l.length ≤ 200
  · have d1 : decide ((l.length : Int) ≤ 200) = true := by simp; omega
    have HN2 : Hid (A = B) := by show _ = _; rw [HN.out]; simp [h2]
    clear HN
    go_enter Tryd.func24, Tryd.ntmps24
    go_wp2_with fail
    rw [hW.out]
    refine wp_region_held_drew (S := fun w' => w'.cell? ⟨w.heap.size, 0, none⟩ = some (.slice ao l.length cap) ∧ w'.cell? ⟨w.heap.size, 1, none⟩ = some (.int .i64 h.n) ∧ w'.cell? ⟨w.heap.size, 2, none⟩ = some (.string h.r)) (by kernel_rfl) ⟨c0, c1, c2⟩ (fun hHeld => ?_)
    (refine wpAnyH_take (i := 0) (v := ?v0x1) rfl (by kernel_rfl) (by kernel_rfl) (by kernel_rfl) (fun _ _ _ h => h) (Or.inl ⟨by rfl, ?hy0x1⟩) (by assumption) ?rest0x1; case hy0x1 => (intro w hSw; (try dsimp only at hSw); go_split_ands; go_simp; (try with_reducible rfl)))
    try simp only [Act.put, List.setIfInBounds_toArray, List.set_cons_zero, List.set_cons_succ, List.getElem_toArray, List.getElem_cons_zero, List.getElem_cons_succ]
    (refine wpAnyH_take (i := 1) (v := ?v1x2) rfl (by kernel_rfl) (by kernel_rfl) (by kernel_rfl) (fun _ _ _ h => h) (Or.inl ⟨by rfl, ?hy1x2⟩) (by assumption) ?rest1x2; case hy1x2 => (intro w hSw; (try dsimp only at hSw); go_split_ands; go_simp; (try with_reducible rfl)))
    try simp only [Act.put, List.setIfInBounds_toArray, List.set_cons_zero, List.set_cons_succ, List.getElem_toArray, List.getElem_cons_zero, List.getElem_cons_succ]
    (refine wpAnyH_take (i := 2) (v := ?v2x3) rfl (by kernel_rfl) (by kernel_rfl) (by kernel_rfl) (fun _ _ _ h => h) (Or.inl ⟨by rfl, ?hy2x3⟩) (by assumption) ?rest2x3; case hy2x3 => (intro w hSw; (try dsimp only at hSw); go_split_ands; go_simp; (try with_reducible rfl)))
    try simp only [Act.put, List.setIfInBounds_toArray, List.set_cons_zero, List.set_cons_succ, List.getElem_toArray, List.getElem_cons_zero, List.getElem_cons_succ]
    (refine wpAnyH_take (i := 3) (v := ?v3x4) rfl (by kernel_rfl) (by kernel_rfl) (by kernel_rfl) (fun _ _ _ h => h) (Or.inl ⟨by rfl, ?hy3x4⟩) (by assumption) ?rest3x4; case hy3x4 => (intro w hSw; (try dsimp only at hSw); go_split_ands; go_simp; (try with_reducible rfl)))
    try simp only [Act.put, List.setIfInBounds_toArray, List.set_cons_zero, List.set_cons_succ, List.getElem_toArray, List.getElem_cons_zero, List.getElem_cons_succ]
    (refine wpAnyH_take (i := 4) (v := ?v4x5) rfl (by kernel_rfl) (by kernel_rfl) (by kernel_rfl) (fun _ _ _ h => h) (Or.inl ⟨by rfl, ?hy4x5⟩) (by assumption) ?rest4x5; case hy4x5 => (intro w hSw; (try dsimp only at hSw); go_split_ands; go_simp; (try with_reducible rfl)))
    try simp only [Act.put, List.setIfInBounds_toArray, List.set_cons_zero, List.set_cons_succ, List.getElem_toArray, List.getElem_cons_zero, List.getElem_cons_succ]
    (refine wpAnyH_take (i := 5) (v := ?v5x6) rfl (by kernel_rfl) (by kernel_rfl) (by kernel_rfl) (fun _ _ _ h => h) (Or.inl ⟨by rfl, ?hy5x6⟩) (by assumption) ?rest5x6; case hy5x6 => (intro w hSw; (try dsimp only at hSw); go_split_ands; go_simp; (try with_reducible rfl)))
    try simp only [Act.put, List.setIfInBounds_toArray, List.set_cons_zero, List.set_cons_succ, List.getElem_toArray, List.getElem_cons_zero, List.getElem_cons_succ]
    (refine wpAnyH_take (i := 6) (v := ?v6x7) rfl (by kernel_rfl) (by kernel_rfl) (by kernel_rfl) (fun _ _ _ h => h) (Or.inl ⟨by rfl, ?hy6x7⟩) (by assumption) ?rest6x7; case hy6x7 => (intro w hSw; (try dsimp only at hSw); go_split_ands; go_simp; (try with_reducible rfl)))
    try simp only [Act.put, List.setIfInBounds_toArray, List.set_cons_zero, List.set_cons_succ, List.getElem_toArray, List.getElem_cons_zero, List.getElem_cons_succ]
    (refine wpAnyH_take (i := 7) (v := ?v7x8) rfl (by kernel_rfl) (by kernel_rfl) (by kernel_rfl) (fun _ _ _ h => h) (Or.inl ⟨by rfl, ?hy7x8⟩) (by assumption) ?rest7x8; case hy7x8 => (intro w hSw; (try dsimp only at hSw); go_split_ands; go_simp; (try with_reducible rfl)))
    try simp only [Act.put, List.setIfInBounds_toArray, List.set_cons_zero, List.set_cons_succ, List.getElem_toArray, List.getElem_cons_zero, List.getElem_cons_succ]
    (refine wpAnyH_take (i := 8) (v := ?v8x9) rfl (by kernel_rfl) (by kernel_rfl) (by kernel_rfl) (fun _ _ _ h => h) (Or.inl ⟨by rfl, ?hy8x9⟩) (by assumption) ?rest8x9; case hy8x9 => (intro w hSw; (try dsimp only at hSw); go_split_ands; go_simp; (try with_reducible rfl)))
    try simp only [Act.put, List.setIfInBounds_toArray, List.set_cons_zero, List.set_cons_succ, List.getElem_toArray, List.getElem_cons_zero, List.getElem_cons_succ]
    refine wpAnyH_ready (rs := [9]) (by kernel_rfl) (by simp) ?_
    refine AllReadyH.cons rfl (fun K hK => ?_) AllReadyH.nil
    go_simp
    refine (q).mono ?_
    rintro e w1 ⟨rfl, b1⟩
    refine hK.out _ _ ?_ (fun hHeld => ?_)
    · exact ⟨keepR (W := W.drew) hHeld.1 b1, keepR (W := W.drew) hHeld.2.1 b1, keepR (W := W.drew) hHeld.2.2 b1⟩
    clear hK K
    try simp only [Act.put, List.setIfInBounds_toArray, List.set_cons_zero, List.set_cons_succ, List.getElem_toArray, List.getElem_cons_zero, List.getElem_cons_succ]
    (refine wpAnyH_take (i := 10) (v := ?v10x10) rfl (by kernel_rfl) (by kernel_rfl) (by kernel_rfl) (fun _ _ _ h => h) (Or.inl ⟨by rfl, ?hy10x10⟩) (by assumption) ?rest10x10; case hy10x10 => (intro w hSw; (try dsimp only at hSw); go_split_ands; go_simp; (try with_reducible rfl)))
    try simp only [Act.put, List.setIfInBounds_toArray, List.set_cons_zero, List.set_cons_succ, List.getElem_toArray, List.getElem_cons_zero, List.getElem_cons_succ]
    (refine wpAnyH_take (i := 11) (v := ?v11x11) rfl (by kernel_rfl) (by kernel_rfl) (by kernel_rfl) (fun _ _ _ h => h) (Or.inl ⟨by rfl, ?hy11x11⟩) (by assumption) ?rest11x11; case hy11x11 => (intro w hSw; (try dsimp only at hSw); go_split_ands; go_simp; (try with_reducible rfl)))
    try simp only [Act.put, List.setIfInBounds_toArray, List.set_cons_zero, List.set_cons_succ, List.getElem_toArray, List.getElem_cons_zero, List.getElem_cons_succ]
    (refine wpAnyH_take (i := 12) (v := ?v12x12) rfl (by kernel_rfl) (by kernel_rfl) (by kernel_rfl) (fun _ _ _ h => h) (Or.inl ⟨by rfl, ?hy12x12⟩) (by assumption) ?rest12x12; case hy12x12 => (intro w hSw; (try dsimp only at hSw); go_split_ands; go_simp; (try with_reducible rfl)))
    try simp only [Act.put, List.setIfInBounds_toArray, List.set_cons_zero, List.set_cons_succ, List.getElem_toArray, List.getElem_cons_zero, List.getElem_cons_succ]
    refine wpAnyH_done (by kernel_rfl) ?_ _
    clear hHeld
    go_wp2
    go_ret
    exact ⟨by rw [HN2.out]; rfl, (Below.drew HB.out).trans (b1.mono HB.out.size)⟩
  · have d1 : decide ((l.length : Int) ≤ 200) = false := by simp; omega
    have HN2 : Hid (A = false) := by show _ = _; rw [HN.out]; simp [h2]
    clear HN q
    go_enter Tryd.func24, Tryd.ntmps24
    go_wp2_with fail
    rw [hW.out]
    refine wp_region_held_drew (S := fun w' => w'.cell? ⟨w.heap.size, 0, none⟩ = some (.slice ao l.length cap) ∧ w'.cell? ⟨w.heap.size, 1, none⟩ = some (.int .i64 h.n) ∧ w'.cell? ⟨w.heap.size, 2, none⟩ = some (.string h.r)) (by kernel_rfl) ⟨c0, c1, c2⟩ (fun hHeld => ?_)
    (refine wpAnyH_take (i := 0) (v := ?v0x13) rfl (by kernel_rfl) (by kernel_rfl) (by kernel_rfl) (fun _ _ _ h => h) (Or.inl ⟨by rfl, ?hy0x13⟩) (by assumption) ?rest0x13; case hy0x13 => (intro w hSw; (try dsimp only at hSw); go_split_ands; go_simp; (try with_reducible rfl)))
    try simp only [Act.put, List.setIfInBounds_toArray, List.set_cons_zero, List.set_cons_succ, List.getElem_toArray, List.getElem_cons_zero, List.getElem_cons_succ]
    (refine wpAnyH_take (i := 1) (v := ?v1x14) rfl (by kernel_rfl) (by kernel_rfl) (by kernel_rfl) (fun _ _ _ h => h) (Or.inl ⟨by rfl, ?hy1x14⟩) (by assumption) ?rest1x14; case hy1x14 => (intro w hSw; (try dsimp only at hSw); go_split_ands; go_simp; (try with_reducible rfl)))
    try simp only [Act.put, List.setIfInBounds_toArray, List.set_cons_zero, List.set_cons_succ, List.getElem_toArray, List.getElem_cons_zero, List.getElem_cons_succ]
    (refine wpAnyH_take (i := 2) (v := ?v2x15) rfl (by kernel_rfl) (by kernel_rfl) (by kernel_rfl) (fun _ _ _ h => h) (Or.inl ⟨by rfl, ?hy2x15⟩) (by assumption) ?rest2x15; case hy2x15 => (intro w hSw; (try dsimp only at hSw); go_split_ands; go_simp; (try with_reducible rfl)))
    try simp only [Act.put, List.setIfInBounds_toArray, List.set_cons_zero, List.set_cons_succ, List.getElem_toArray, List.getElem_cons_zero, List.getElem_cons_succ]
    (refine wpAnyH_take (i := 3) (v := ?v3x16) rfl (by kernel_rfl) (by kernel_rfl) (by kernel_rfl) (fun _ _ _ h => h) (Or.inl ⟨by rfl, ?hy3x16⟩) (by assumption) ?rest3x16; case hy3x16 => (intro w hSw; (try dsimp only at hSw); go_split_ands; go_simp; (try with_reducible rfl)))
    try simp only [Act.put, List.setIfInBounds_toArray, List.set_cons_zero, List.set_cons_succ, List.getElem_toArray, List.getElem_cons_zero, List.getElem_cons_succ]
    (refine wpAnyH_take (i := 4) (v := ?v4x17) rfl (by kernel_rfl) (by kernel_rfl) (by kernel_rfl) (fun _ _ _ h => h) (Or.inl ⟨by rfl, ?hy4x17⟩) (by assumption) ?rest4x17; case hy4x17 => (intro w hSw; (try dsimp only at hSw); go_split_ands; go_simp; (try with_reducible rfl)))
    try simp only [Act.put, List.setIfInBounds_toArray, List.set_cons_zero, List.set_cons_succ, List.getElem_toArray, List.getElem_cons_zero, List.getElem_cons_succ]
    (refine wpAnyH_take (i := 5) (v := undef) rfl (by kernel_rfl) (by kernel_rfl) (by kernel_rfl) (fun _ _ _ h => h) (Or.inr ⟨by rfl, rfl⟩) (by assumption) ?_)
    try simp only [Act.put, List.setIfInBounds_toArray, List.set_cons_zero, List.set_cons_succ, List.getElem_toArray, List.getElem_cons_zero, List.getElem_cons_succ]
    (refine wpAnyH_take (i := 6) (v := undef) rfl (by kernel_rfl) (by kernel_rfl) (by kernel_rfl) (fun _ _ _ h => h) (Or.inr ⟨by rfl, rfl⟩) (by assumption) ?_)
    try simp only [Act.put, List.setIfInBounds_toArray, List.set_cons_zero, List.set_cons_succ, List.getElem_toArray, List.getElem_cons_zero, List.getElem_cons_succ]
    (refine wpAnyH_take (i := 7) (v := undef) rfl (by kernel_rfl) (by kernel_rfl) (by kernel_rfl) (fun _ _ _ h => h) (Or.inr ⟨by rfl, rfl⟩) (by assumption) ?_)
    try simp only [Act.put, List.setIfInBounds_toArray, List.set_cons_zero, List.set_cons_succ, List.getElem_toArray, List.getElem_cons_zero, List.getElem_cons_succ]
    (refine wpAnyH_take (i := 8) (v := undef) rfl (by kernel_rfl) (by kernel_rfl) (by kernel_rfl) (fun _ _ _ h => h) (Or.inr ⟨by rfl, rfl⟩) (by assumption) ?_)
    try simp only [Act.put, List.setIfInBounds_toArray, List.set_cons_zero, List.set_cons_succ, List.getElem_toArray, List.getElem_cons_zero, List.getElem_cons_succ]
    (refine wpAnyH_take (i := 9) (v := undef) rfl (by kernel_rfl) (by kernel_rfl) (by kernel_rfl) (fun _ _ _ h => h) (Or.inr ⟨by rfl, rfl⟩) (by assumption) ?_)
    try simp only [Act.put, List.setIfInBounds_toArray, List.set_cons_zero, List.set_cons_succ, List.getElem_toArray, List.getElem_cons_zero, List.getElem_cons_succ]
    (refine wpAnyH_take (i := 10) (v := undef) rfl (by kernel_rfl) (by kernel_rfl) (by kernel_rfl) (fun _ _ _ h => h) (Or.inr ⟨by rfl, rfl⟩) (by assumption) ?_)
    try simp only [Act.put, List.setIfInBounds_toArray, List.set_cons_zero, List.set_cons_succ, List.getElem_toArray, List.getElem_cons_zero, List.getElem_cons_succ]
    (refine wpAnyH_take (i := 11) (v := ?v11x24) rfl (by kernel_rfl) (by kernel_rfl) (by kernel_rfl) (fun _ _ _ h => h) (Or.inl ⟨by rfl, ?hy11x24⟩) (by assumption) ?rest11x24; case hy11x24 => (intro w hSw; (try dsimp only at hSw); go_split_ands; go_simp; (try with_reducible rfl)))
    try simp only [Act.put, List.setIfInBounds_toArray, List.set_cons_zero, List.set_cons_succ, List.getElem_toArray, List.getElem_cons_zero, List.getElem_cons_succ]
    (refine wpAnyH_take (i := 12) (v := ?v12x25) rfl (by kernel_rfl) (by kernel_rfl) (by kernel_rfl) (fun _ _ _ h => h) (Or.inl ⟨by rfl, ?hy12x25⟩) (by assumption) ?rest12x25; case hy12x25 => (intro w hSw; (try dsimp only at hSw); go_split_ands; go_simp; (try with_reducible rfl)))
    try simp only [Act.put, List.setIfInBounds_toArray, List.set_cons_zero, List.set_cons_succ, List.getElem_toArray, List.getElem_cons_zero, List.getElem_cons_succ]
    refine wpAnyH_done (by kernel_rfl) ?_ _
    clear hHeld
    go_wp2
    go_ret
    exact ⟨by rw [HN2.out]; rfl, Below.drew HB.out⟩

end Go.Proofs.YtfpaichdkddglabDoor.Lg

/- Blocks that were made one behind the other; no program is named here. -/
namespace Go.Proofs.YtfpaichdkddglabDoor.Mem
open Go.RowKit
set_option linter.unusedVariables false
set_option linter.unusedSimpArgs false

theorem alloc_nth1_0 (w : World) (O0 : Obj) : (w.alloc O0).heap[w.heap.size]? = some O0 := by
  exact heap_alloc_new w O0
theorem alloc_nth2_0 (w : World) (O0 O1 : Obj) : ((w.alloc O0).alloc O1).heap[w.heap.size]? = some O0 := by
  rw [heap_alloc_old _ _ (by simp; try omega)]
  exact alloc_nth1_0 w O0
theorem alloc_nth2_1 (w : World) (O0 O1 : Obj) : ((w.alloc O0).alloc O1).heap[w.heap.size + 1]? = some O1 := by
  have h := heap_alloc_new (w.alloc O0) O1
  simpa using h
theorem alloc_nth3_0 (w : World) (O0 O1 O2 : Obj) : (((w.alloc O0).alloc O1).alloc O2).heap[w.heap.size]? = some O0 := by
  rw [heap_alloc_old _ _ (by simp; try omega)]
  exact alloc_nth2_0 w O0 O1
theorem alloc_nth3_1 (w : World) (O0 O1 O2 : Obj) : (((w.alloc O0).alloc O1).alloc O2).heap[w.heap.size + 1]? = some O1 := by
  rw [heap_alloc_old _ _ (by simp; try omega)]
  exact alloc_nth2_1 w O0 O1
theorem alloc_nth3_2 (w : World) (O0 O1 O2 : Obj) : (((w.alloc O0).alloc O1).alloc O2).heap[w.heap.size + 1 + 1]? = some O2 := by
  have h := heap_alloc_new ((w.alloc O0).alloc O1) O2
  simpa using h
theorem alloc_nth4_0 (w : World) (O0 O1 O2 O3 : Obj) : ((((w.alloc O0).alloc O1).alloc O2).alloc O3).heap[w.heap.size]? = some O0 := by
  rw [heap_alloc_old _ _ (by simp; try omega)]
  exact alloc_nth3_0 w O0 O1 O2
theorem alloc_nth4_1 (w : World) (O0 O1 O2 O3 : Obj) : ((((w.alloc O0).alloc O1).alloc O2).alloc O3).heap[w.heap.size + 1]? = some O1 := by
  rw [heap_alloc_old _ _ (by simp; try omega)]
  exact alloc_nth3_1 w O0 O1 O2
theorem alloc_nth4_2 (w : World) (O0 O1 O2 O3 : Obj) : ((((w.alloc O0).alloc O1).alloc O2).alloc O3).heap[w.heap.size + 1 + 1]? = some O2 := by
  rw [heap_alloc_old _ _ (by simp; try omega)]
  exact alloc_nth3_2 w O0 O1 O2
theorem alloc_nth4_3 (w : World) (O0 O1 O2 O3 : Obj) : ((((w.alloc O0).alloc O1).alloc O2).alloc O3).heap[w.heap.size + 1 + 1 + 1]? = some O3 := by
  have h := heap_alloc_new (((w.alloc O0).alloc O1).alloc O2) O3
  simpa using h
theorem alloc_nth5_0 (w : World) (O0 O1 O2 O3 O4 : Obj) : (((((w.alloc O0).alloc O1).alloc O2).alloc O3).alloc O4).heap[w.heap.size]? = some O0 := by
  rw [heap_alloc_old _ _ (by simp; try omega)]
  exact alloc_nth4_0 w O0 O1 O2 O3
theorem alloc_nth5_1 (w : World) (O0 O1 O2 O3 O4 : Obj) : (((((w.alloc O0).alloc O1).alloc O2).alloc O3).alloc O4).heap[w.heap.size + 1]? = some O1 := by
  rw [heap_alloc_old _ _ (by simp; try omega)]
  exact alloc_nth4_1 w O0 O1 O2 O3
theorem alloc_nth5_2 (w : World) (O0 O1 O2 O3 O4 : Obj) : (((((w.alloc O0).alloc O1).alloc O2).alloc O3).alloc O4).heap[w.heap.size + 1 + 1]? = some O2 := by
  rw [heap_alloc_old _ _ (by simp; try omega)]
  exact alloc_nth4_2 w O0 O1 O2 O3
theorem alloc_nth5_3 (w : World) (O0 O1 O2 O3 O4 : Obj) : (((((w.alloc O0).alloc O1).alloc O2).alloc O3).alloc O4).heap[w.heap.size + 1 + 1 + 1]? = some O3 := by
  rw [heap_alloc_old _ _ (by simp; try omega)]
  exact alloc_nth4_3 w O0 O1 O2 O3
theorem alloc_nth5_4 (w : World) (O0 O1 O2 O3 O4 : Obj) : (((((w.alloc O0).alloc O1).alloc O2).alloc O3).alloc O4).heap[w.heap.size + 1 + 1 + 1 + 1]? = some O4 := by
  have h := heap_alloc_new ((((w.alloc O0).alloc O1).alloc O2).alloc O3) O4
  simpa using h

end Go.Proofs.YtfpaichdkddglabDoor.Mem

/- Chapter 11, the specification's side: what a log takes; what it proves. -/
namespace Go.Proofs.YtfpaichdkddglabDoor.Lg
open Go.RowKit Go.Proofs.YtfpaichdkddglabDoor.Mem Go.Proofs.YtfpaichdkddglabDoor.Laws Go.Proofs.YtfpaichdkddglabDoor.Bytes Go.Proofs.YtfpaichdkddglabDoor.Sha Go.Proofs.YtfpaichdkddglabDoor.Tr Go.Proofs.YtfpaichdkddglabDoor.He
set_option linter.unusedVariables false
set_option linter.unusedSimpArgs false

/-- what Extend answers -/
def extend (l : List ByteArray) (hd : Hd) (t : List Hd) (h : Hd) (x : List ByteArray) : List ByteArray × Hd × Int :=
  if logOk l hd = true ∧ okH h = true ∧ h.n = ((l ++ x).length : Int) then
    if signed t h = true then
      if x.length = 0 then (l, hd, 3) else if eqH h (headOf (l ++ x)) = true then (l ++ x, h, 0) else (l, hd, 4)
    else (l, hd, 2)
  else (l, hd, 1)
theorem extend1 {l : List ByteArray} {hd : Hd} {h : Hd} {x : List ByteArray} (hk : ¬ (logOk l hd = true ∧ okH h = true ∧ h.n = ((l ++ x).length : Int))) (t : List Hd) : extend l hd t h x = (l, hd, 1) := by unfold extend; rw [if_neg hk]
theorem extend2 {l : List ByteArray} {hd : Hd} {t : List Hd} {h : Hd} {x : List ByteArray} (hk : logOk l hd = true ∧ okH h = true ∧ h.n = ((l ++ x).length : Int)) (hs : signed t h = false) : extend l hd t h x = (l, hd, 2) := by unfold extend; rw [if_pos hk, if_neg (by simp [hs])]
theorem extend3 {l : List ByteArray} {hd : Hd} {t : List Hd} {h : Hd} {x : List ByteArray} (hk : logOk l hd = true ∧ okH h = true ∧ h.n = ((l ++ x).length : Int)) (hs : signed t h = true) (hx : x.length = 0) : extend l hd t h x = (l, hd, 3) := by unfold extend; rw [if_pos hk, if_pos hs, if_pos hx]
theorem extend4 {l : List ByteArray} {hd : Hd} {t : List Hd} {h : Hd} {x : List ByteArray} (hk : logOk l hd = true ∧ okH h = true ∧ h.n = ((l ++ x).length : Int)) (hs : signed t h = true) (hx : ¬ x.length = 0) (he : eqH h (headOf (l ++ x)) = false) : extend l hd t h x = (l, hd, 4) := by unfold extend; rw [if_pos hk, if_pos hs, if_neg hx, if_neg (by simp [he])]
theorem extend0 {l : List ByteArray} {hd : Hd} {t : List Hd} {h : Hd} {x : List ByteArray} (hk : logOk l hd = true ∧ okH h = true ∧ h.n = ((l ++ x).length : Int)) (hs : signed t h = true) (hx : ¬ x.length = 0) (he : eqH h (headOf (l ++ x)) = true) : extend l hd t h x = (l ++ x, h, 0) := by unfold extend; rw [if_pos hk, if_pos hs, if_neg hx, if_pos he]
theorem size_app {l x : List ByteArray} {N : Nat} (h1 : ∀ s ∈ l, s.size ≤ N) (h2 : ∀ s ∈ x, s.size ≤ N) : ∀ s ∈ l ++ x, s.size ≤ N := by
  intro s hs
  rcases List.mem_append.1 hs with h | h
  · exact h1 s h
  · exact h2 s h

/-- what ProveIn and ProveGrown answer -/
def proveIn (l : List ByteArray) (h : Hd) (i : Int) : List ByteArray × Bool := if logOk l h = true ∧ 0 ≤ i ∧ i ≤ (l.length : Int) - 1 then (path l i.toNat, true) else ([], false)
def proveGrown (l : List ByteArray) (h : Hd) (n : Int) : List ByteArray × Bool := if logOk l h = true ∧ 1 ≤ n ∧ n ≤ (l.length : Int) - 1 then (grow l n.toNat true, true) else ([], false)

end Go.Proofs.YtfpaichdkddglabDoor.Lg
