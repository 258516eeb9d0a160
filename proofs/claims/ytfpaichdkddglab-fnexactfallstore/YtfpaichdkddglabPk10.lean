/- Texts in one: HeE, He2, He3, HeO, Sr1, Lg1, Nth, Lg2, Sr2. -/
import Derived.Test.YtfpaichdkddglabPk9
import Derived.Test.YtfpaichdkddglabPk8
import Derived.Test.YtfpaichdkddglabPk5
import Derived.Test.YtfpaichdkddglabPk7
import Derived.Laws.StructEq
import Derived.BigQuiet
import Derived.Deep.RegionHeld3
/- Two heads held against each other, as the language does it. -/
namespace Go.Proofs.Ytfpaichdkddglab.He
open Go.RowKit Go.Proofs.Ytfpaichdkddglab.Mem Go.Proofs.Ytfpaichdkddglab.Laws Go.Proofs.Ytfpaichdkddglab.Bytes Go.Proofs.Ytfpaichdkddglab.Sha Go.Proofs.Ytfpaichdkddglab.Tr
set_option linter.unusedVariables false
set_option linter.unusedSimpArgs false

theorem fieldsH : Try.prog.underlying 32 = some (.struct (Try.prog.fieldsOf 32)) := by kernel_rfl
theorem heldH : Try.prog.stoodInHeld 32 = false := by kernel_rfl
theorem guardH : Try.prog.eqGuardType Try.prog.depth 32 = false := by kernel_rfl
theorem eqHrun (w : World) (a b : Hd) :
    (Op.equalIn 10000 32 (.agg #[.int .i64 a.n, .string a.r]) (.agg #[.int .i64 b.n, .string b.r])).run Try.prog w = .ok (eqH a b) w := by
  rw [run_equalIn_struct w 9999 _ _ _ fieldsH heldH]
  simp [Program.fieldsOf, Try.underlying32, Op.eqFields, go_sem, run_underlying Try.underlying3, run_underlying Try.underlying9, Try.underlying3, Try.underlying9, part]
  unfold eqH
  repeat' split
  all_goals simp_all
theorem eqlH (w : World) (a b : Hd) : (binOp .eql 32 (.agg #[.int .i64 a.n, .string a.r]) (.agg #[.int .i64 b.n, .string b.r])).run Try.prog w = .ok (.bool (eqH a b)) w := by
  rw [run_eql_struct, eqHrun]
  rfl
theorem neqH (w : World) (a b : Hd) : (binOp .neq 32 (.agg #[.int .i64 a.n, .string a.r]) (.agg #[.int .i64 b.n, .string b.r])).run Try.prog w = .ok (.bool (!eqH a b)) w := by
  rw [run_neq_struct, eqHrun]
  rfl
theorem grdH (w : World) (op : BinOp) (x y : Operand) (xs ys : Array Value) : (eqGuard op 32 x y (.agg xs) (.agg ys)).run Try.prog w = .ok () w := run_eqGuard_agg w op 32 x y xs ys guardH
theorem eqH_iff (a b : Hd) : eqH a b = true ↔ a = b := by
  unfold eqH
  simp only [Bool.and_eq_true, beq_iff_eq, ByteArray.toList_eq]
  constructor
  · rintro ⟨h1, h2⟩
    exact Hd.ext' h1 (by apply ByteArray.ext; apply Array.ext'; exact h2)
  · rintro rfl
    exact ⟨rfl, rfl⟩

end Go.Proofs.Ytfpaichdkddglab.He

/- Chapter 10, the laws' helpers: a head's size, its turning, whether two are the same; lists of heads. -/
namespace Go.Proofs.Ytfpaichdkddglab.He
open Go.RowKit Go.Proofs.Ytfpaichdkddglab.Mem Go.Proofs.Ytfpaichdkddglab.Laws Go.Proofs.Ytfpaichdkddglab.Bytes Go.Proofs.Ytfpaichdkddglab.Sha Go.Proofs.Ytfpaichdkddglab.Tr
set_option linter.unusedVariables false
set_option linter.unusedSimpArgs false

theorem keepH {W W' : World} {p : Addr} {x : Value} (h : W.cell? p = some x) (b : Below W.heap.size W W') : W'.cell? p = some x := by
  rw [b.cell (World.block_lt_of_cell? W p h)]; exact h

set_option maxRecDepth 1000000 in
set_option maxHeartbeats 1000000 in
theorem to_head (w : World) (h : Hd) :
    Calls Try.prog 23 #[.agg #[.int .i64 h.n, .string h.r]] w fun e w' => e = .returned (.agg #[.int .i64 h.n, .string h.r]) ∧ Below w.heap.size w w' := by
  have HB : Hid (Below w.heap.size w (((w.alloc (.cells #[.int .i64 h.n, .string h.r] 24)).alloc (.cells #[.int .i64 0, .string ⟨#[]⟩] 32)).alloc (.cells #[.int .i64 h.n, .string h.r] 32))) := (((Below.refl _ _).alloc (Nat.le_refl _) _).alloc (by simp) _).alloc (by simp; omega) _
  have HR1 : Hid ((((w.alloc (.cells #[.int .i64 h.n, .string h.r] 24)).alloc (.cells #[.int .i64 0, .string ⟨#[]⟩] 32)).alloc (.cells #[.int .i64 h.n, .string h.r] 32)).heap[w.heap.size + 1]? = some (.cells #[.int .i64 0, .string ⟨#[]⟩] 32 (0, 0))) := by
    show _ = _
    rw [heap_alloc_old _ _ (by simp)]
    have := heap_alloc_new (w.alloc (.cells #[.int .i64 h.n, .string h.r] 24)) (.cells #[.int .i64 0, .string ⟨#[]⟩] 32)
    simpa using this
  have HR2 : Hid ((((w.alloc (.cells #[.int .i64 h.n, .string h.r] 24)).alloc (.cells #[.int .i64 0, .string ⟨#[]⟩] 32)).alloc (.cells #[.int .i64 h.n, .string h.r] 32)).heap[w.heap.size + 1 + 1]? = some (.cells (hc h) 32 (0, 0))) := by
    show _ = _
    have := heap_alloc_new ((w.alloc (.cells #[.int .i64 h.n, .string h.r] 24)).alloc (.cells #[.int .i64 0, .string ⟨#[]⟩] 32)) (.cells #[.int .i64 h.n, .string h.r] 32)
    simpa [hc] using this
  go_enter Try.func23, Try.ntmps23
  go_wp2_with (first | (refine wpList_load_row rfl 32 _ rfl (w.heap.size + 1 + 1) rfl 32 (hc h) (0, 0) _ HR2.out Try.underlying32 rfl (sizeH h) ?_) | (refine wpList_store_row rfl 32 _ _ rfl (w.heap.size + 1) (hc h) rfl rfl 32 _ HR1.out (sizeH h) rfl (oneH h) ?_))
  exact bodyPost_ret (v := .agg (hc h)) (results_cell_row rfl _ _ (w.heap.size + 1) 32 _ (0, 0) _ rfl (setRow_heap _ _ _ _ _ (0, 0) HR1.out) Try.underlying32 rfl (sizeH h)) rfl ⟨rfl, below_setRow HB.out (by omega) _⟩

set_option maxRecDepth 1000000 in
set_option maxHeartbeats 1000000 in
theorem sz_head (w : World) (n : Hd) (left : Int) (hp : n.r.size ≤ 9223372036854775807) (h0 : 0 ≤ left) (h1 : left ≤ 1048576) :
    Calls Try.prog 21 #[.agg #[.int .i64 n.n, .string n.r], .int .i64 left] w fun e w' => e = .returned (.int .i64 (if left - n.r.size < 0 then -1 else left - n.r.size)) ∧ Below w.heap.size w w' := by
  have HB : Hid (Below w.heap.size w (w.alloc (.cells #[.int .i64 n.n, .string n.r] 24))) := (Below.refl _ _).alloc (Nat.le_refl _) _
  by_cases hb : left - (n.r.size : Int) < 0
  · have HN : Hid ((if left - n.r.size < 0 then -1 else left - n.r.size) = (-1 : Int)) := by show _ = _; rw [if_pos hb]
    go_enter Try.func21, Try.ntmps21
    go_wp2
    go_ret
    exact ⟨by first | rfl | (rw [HN.out]; rfl), HB.out⟩
  · have HN : Hid ((if left - n.r.size < 0 then -1 else left - n.r.size) = left - n.r.size) := by show _ = _; rw [if_neg hb]
    go_enter Try.func21, Try.ntmps21
    go_wp2
    go_ret
    exact ⟨by first | rfl | (rw [HN.out]; rfl), HB.out⟩

theorem infoH : (Try.prog.info? 32).map (fun i => (i.zero, i.size, i.bytes)) = some (some (.agg #[.int .i64 0, .string ⟨#[]⟩]), 2, 24) := by kernel_rfl

set_option maxRecDepth 1000000 in
set_option maxHeartbeats 1000000 in
theorem eq_head (w : World) (h : Hd) :
    Calls Try.prog 25 #[.agg #[.int .i64 h.n, .string h.r], .agg #[.int .i64 h.n, .string h.r]] w fun e w' => e = .returned (.bool true) ∧ Below w.heap.size w w' := by
  have HB : Hid (Below w.heap.size w ((w.alloc (.cells #[.int .i64 h.n, .string h.r] 32)).alloc (.cells #[.int .i64 h.n, .string h.r] 32))) := ((Below.refl _ _).alloc (Nat.le_refl _) _).alloc (by simp) _
  have n1 : (h.r.toList == h.r.toList) = true := by simp
  have n2 : (h.n != h.n) = false := by simp
  go_enter Try.func25, Try.ntmps25
  go_wp2
  go_ret
  exact ⟨rfl, HB.out⟩

end Go.Proofs.Ytfpaichdkddglab.He

/- Chapter 10, the specification's side: heads that are right, signed, the best. -/
namespace Go.Proofs.Ytfpaichdkddglab.He
open Go.RowKit Go.Proofs.Ytfpaichdkddglab.Mem Go.Proofs.Ytfpaichdkddglab.Laws Go.Proofs.Ytfpaichdkddglab.Bytes Go.Proofs.Ytfpaichdkddglab.Sha Go.Proofs.Ytfpaichdkddglab.Tr
set_option linter.unusedVariables false
set_option linter.unusedSimpArgs false

theorem signed_snoc {t : List Hd} {k : Nat} {x : Hd} (hx : t[k]? = some x) (h : Hd) : signed (t.take (k + 1)) h = (signed (t.take k) h || eqH x h) := by
  unfold signed
  rw [List.take_add_one, hx]
  simp
theorem signed_yes {t : List Hd} {k : Nat} {x h : Hd} (hx : t[k]? = some x) (he : eqH x h = true) : signed t h = true := by
  unfold signed
  rw [List.any_eq_true]
  exact ⟨x, List.mem_of_getElem? hx, he⟩

theorem bestF_snoc (b : Hd) (r : List Hd) (x : Hd) : bestF b (r ++ [x]) = if (bestF b r).n < x.n then x else bestF b r := by
  induction r generalizing b with
  | nil => rfl
  | cons y r ih =>
    simp only [List.cons_append, bestF]
    split
    · exact ih y
    · exact ih b

end Go.Proofs.Ytfpaichdkddglab.He

/- Chapter 10: the head of texts (the specification's side). -/
namespace Go.Proofs.Ytfpaichdkddglab.He
open Go.RowKit Go.Proofs.Ytfpaichdkddglab.Mem Go.Proofs.Ytfpaichdkddglab.Laws Go.Proofs.Ytfpaichdkddglab.Bytes Go.Proofs.Ytfpaichdkddglab.Sha Go.Proofs.Ytfpaichdkddglab.Tr
set_option linter.unusedVariables false
set_option linter.unusedSimpArgs false

theorem headOf_size (l : List ByteArray) : (headOf l).r.size ≤ 32 := by
  unfold headOf
  split
  · simp only [root_size]; exact Nat.le_refl _
  · exact Nat.zero_le _

end Go.Proofs.Ytfpaichdkddglab.He

/- Chapter 12: commits as bytes and back, what a store holds; plain facts alone. -/
namespace Go.Proofs.Ytfpaichdkddglab.Sr
open Go.RowKit Go.Proofs.Ytfpaichdkddglab.Mem Go.Proofs.Ytfpaichdkddglab.Laws Go.Proofs.Ytfpaichdkddglab.Sha Go.Proofs.Ytfpaichdkddglab.Tr Go.Proofs.Ytfpaichdkddglab.He
set_option linter.unusedVariables false
set_option linter.unusedSimpArgs false

/-- the body of a commit, its sum, its bytes -/
def body (h : Hd) (x : List ByteArray) : List Int := Puts.num h.n ++ Puts.tx h.r ++ (Puts.num (x.length : Int) ++ Puts.txs x)
def sum4 (b : List Int) : List Int := (digest b).take 4
def put (h : Hd) (x : List ByteArray) : List Int := Puts.num ((body h x).length : Int) ++ (body h x ++ sum4 (body h x))
def putC (h : Hd) (x : List ByteArray) : List Int := if okH h = true ∧ 1 ≤ x.length ∧ x.length ≤ 200 then put h x else []
theorem txs_byt : ∀ l : List ByteArray, Byt (Puts.txs l) := by
  intro l
  induction l with
  | nil => intro x hx; cases hx
  | cons s r ih => exact (Puts.tx_byt s).app ih
theorem body_byt (h : Hd) (x : List ByteArray) : Byt (body h x) := ((Puts.num_byt _).app (Puts.tx_byt _)).app ((Puts.num_byt _).app (txs_byt _))
theorem sum4_byt (b : List Int) : Byt (sum4 b) := fun x hx => digest_byt b x (List.mem_of_mem_take hx)
theorem sum4_len (b : List Int) : (sum4 b).length = 4 := by unfold sum4; rw [List.length_take, digest_len]; rfl
theorem put_byt (h : Hd) (x : List ByteArray) : Byt (put h x) := (Puts.num_byt _).app ((body_byt _ _).app (sum4_byt _))
theorem putC_byt (h : Hd) (x : List ByteArray) : Byt (putC h x) := by
  unfold putC
  split
  · exact put_byt h x
  · intro y hy; cases hy
theorem body_len (h : Hd) (x : List ByteArray) : (body h x).length ≤ h.r.size + 15 + 5 * x.length + Puts.tot x := by
  have h1 := Puts.tx_len h.r
  have h2 := Puts.txs_len x
  have h3 := (Puts.num_len h.n).2
  have h4 := (Puts.num_len (x.length : Int)).2
  unfold body
  simp only [List.length_append]
  omega
theorem put_len (h : Hd) (x : List ByteArray) : (put h x).length ≤ (body h x).length + 9 := by
  have h3 := (Puts.num_len ((body h x).length : Int)).2
  have h4 := sum4_len (body h x)
  unfold put
  simp only [List.length_append]
  omega
theorem put_pos (h : Hd) (x : List ByteArray) : 5 ≤ (put h x).length := by
  have h3 := (Puts.num_len ((body h x).length : Int)).1
  have h4 := sum4_len (body h x)
  unfold put
  simp only [List.length_append]
  omega

/-- no commit -/
def no12 (a : Int) : Hd × List ByteArray × Int × Bool := (hd0, [], a, false)
/-- what stands in a body: head and texts, if it is right -/
def inBody (b : List Int) : Option (Hd × List ByteArray) :=
  if (Plain.getNum b 0).2.2 = true ∧ (Plain.getText b (Plain.getNum b 0).2.1).2.2 = true ∧ (Plain.getTexts b (Plain.getText b (Plain.getNum b 0).2.1).2.1).2.2 = true ∧
      (Plain.getTexts b (Plain.getText b (Plain.getNum b 0).2.1).2.1).2.1 = (b.length : Int) ∧ okH ⟨(Plain.getNum b 0).1, (Plain.getText b (Plain.getNum b 0).2.1).1⟩ = true ∧
      ¬ (Plain.getTexts b (Plain.getText b (Plain.getNum b 0).2.1).2.1).1.length = 0
  then some (⟨(Plain.getNum b 0).1, (Plain.getText b (Plain.getNum b 0).2.1).1⟩, (Plain.getTexts b (Plain.getText b (Plain.getNum b 0).2.1).2.1).1)
  else none
/-- the commit at a place -/
def getC (xs : List Int) (a : Int) : Hd × List ByteArray × Int × Bool :=
  if (Plain.getNum xs a).2.2 = true ∧ (Plain.getNum xs a).1 ≤ (xs.length : Int) - (Plain.getNum xs a).2.1 - 4 then
    match inBody ((xs.drop (Plain.getNum xs a).2.1.toNat).take (Plain.getNum xs a).1.toNat) with
    | some (h, x) =>
      if (xs.drop ((Plain.getNum xs a).2.1.toNat + (Plain.getNum xs a).1.toNat)).take 4 = sum4 ((xs.drop (Plain.getNum xs a).2.1.toNat).take (Plain.getNum xs a).1.toNat) then
        (h, x, (Plain.getNum xs a).2.1 + (Plain.getNum xs a).1 + 4, true)
      else no12 a
    | none => no12 a
  else no12 a
theorem okH_parts {h : Hd} (hk : okH h = true) : 0 ≤ h.n ∧ h.n ≤ 200 ∧ h.r.size = 32 := by
  unfold okH at hk
  simp only [decide_eq_true_eq] at hk
  exact ⟨hk.1.1, hk.1.2, hk.2⟩
/-- a body that was made is read -/
theorem inBody_body {h : Hd} {x : List ByteArray} (hk : okH h = true) (h1 : 1 ≤ x.length) (h2 : x.length ≤ 200) (hs : ∀ s ∈ x, s.size ≤ 1000000000) : inBody (body h x) = some (h, x) := by
  obtain ⟨k0, k1, k2⟩ := okH_parts hk
  have e1 : Plain.getNum (body h x) 0 = (h.n, ((Puts.num h.n).length : Int), true) := by
    have g := Plain.getNum_back [] (Puts.tx h.r ++ (Puts.num (x.length : Int) ++ Puts.txs x)) h.n
    have e : body h x = [] ++ (Puts.num h.n ++ (Puts.tx h.r ++ (Puts.num (x.length : Int) ++ Puts.txs x))) := by unfold body; simp only [List.append_assoc, List.nil_append]
    have ec : Plain.clampN h.n = h.n := by unfold Plain.clampN; rw [if_neg (by omega), if_neg (by omega)]
    rw [e]
    simpa [ec] using g
  have e2 : Plain.getText (body h x) ((Puts.num h.n).length : Int) = (h.r, (((Puts.num h.n).length + (Puts.tx h.r).length : Nat) : Int), true) := by
    have g := Plain.getText_back (Puts.num h.n) (Puts.num (x.length : Int) ++ Puts.txs x) h.r (by omega)
    have e : body h x = Puts.num h.n ++ (Puts.tx h.r ++ (Puts.num (x.length : Int) ++ Puts.txs x)) := by unfold body; simp only [List.append_assoc]
    rw [e, g]
    simp
  have e3 : Plain.getTexts (body h x) (((Puts.num h.n).length + (Puts.tx h.r).length : Nat) : Int) = (x, ((body h x).length : Int), true) := by
    have g := Plain.getTexts_back (Puts.num h.n ++ Puts.tx h.r) [] x h2 hs
    have e : body h x = (Puts.num h.n ++ Puts.tx h.r ++ Puts.num (x.length : Int) ++ Puts.txs x) ++ [] := by unfold body; simp only [List.append_assoc, List.append_nil]
    rw [List.length_append] at g
    rw [e, g]
    simp
  unfold inBody
  rw [e1]
  simp only
  rw [e2]
  simp only
  rw [e3]
  simp only
  rw [if_pos ⟨trivial, trivial, trivial, trivial, hk, by omega⟩]
theorem size_txs {t : ByteArray} : ∀ l : List ByteArray, t ∈ l → t.size ≤ (Puts.txs l).length := by
  intro l
  induction l with
  | nil => intro h; cases h
  | cons a r ih =>
    intro h
    simp only [Puts.txs, List.length_append]
    rcases List.mem_cons.1 h with rfl | h
    · have : (Puts.tx t).length = (Puts.num (t.size : Int)).length + t.size := by unfold Puts.tx; rw [List.length_append, sb_len]
      omega
    · have := ih h; omega
/-- what is read of a body was made so -/
theorem body_inBody {b : List Int} {h : Hd} {x : List ByteArray} (hb : Byt b) (hi : inBody b = some (h, x)) : b = body h x ∧ okH h = true ∧ 1 ≤ x.length ∧ x.length ≤ 200 ∧ ∀ s ∈ x, s.size ≤ b.length := by
  unfold inBody at hi
  split at hi
  · rename_i hc
    simp only [Option.some.injEq, Prod.mk.injEq] at hi
    obtain ⟨n, p, ok, hg⟩ : ∃ n p ok, Plain.getNum b 0 = (n, p, ok) := ⟨_, _, _, rfl⟩
    rw [hg] at hi hc
    simp only at hi hc
    obtain ⟨r, q, ok2, hg2⟩ : ∃ r q ok, Plain.getText b p = (r, q, ok) := ⟨_, _, _, rfl⟩
    rw [hg2] at hi hc
    simp only at hi hc
    obtain ⟨l, s, ok3, hg3⟩ : ∃ l s ok, Plain.getTexts b q = (l, s, ok) := ⟨_, _, _, rfl⟩
    have hlen := Plain.getTexts_len b q
    rw [hg3] at hi hc hlen
    simp only at hi hc hlen
    obtain ⟨rfl, rfl, rfl, hs, hk, hl⟩ := hc
    obtain ⟨rfl, rfl⟩ := hi
    obtain ⟨p', rfl, _, hn9, _, hd⟩ := Can.getNum_canon (a := 0) hb hg
    obtain ⟨q', rfl, _, hd2⟩ := Can.getText_canon hb hg2
    obtain ⟨s', hs', hd3⟩ := Can.getTexts_canon hb hg3
    have es : s' = b.length := by omega
    rw [es, List.drop_of_length_le (Nat.le_refl _), List.append_nil] at hd3
    rw [List.drop_zero] at hd
    have eb : b = body ⟨n, r⟩ l := by
      conv => lhs; rw [hd, hd2, hd3]
      unfold body
      simp only [List.append_assoc]
    refine ⟨eb, hk, by omega, hlen, ?_⟩
    intro t ht
    have h5 := size_txs l ht
    rw [eb]
    unfold body
    simp only [List.length_append]
    omega
  · cases hi

theorem size_body {h : Hd} {x : List ByteArray} {t : ByteArray} (ht : t ∈ x) : t.size ≤ (body h x).length := by
  have := size_txs x ht
  unfold body
  simp only [List.length_append]
  omega
/-- what is got of a commit whose last four bytes are any -/
theorem get_sum (ys r s4 : List Int) {h : Hd} {x : List ByteArray} (hk : okH h = true) (h1 : 1 ≤ x.length) (h2 : x.length ≤ 200) (hl : (body h x).length ≤ 1000000000) (h4 : s4.length = 4) :
    getC (ys ++ (Puts.num ((body h x).length : Int) ++ (body h x ++ s4) ++ r)) (ys.length : Int) = if s4 = sum4 (body h x) then (h, x, ((ys.length + (put h x).length : Nat) : Int), true) else no12 (ys.length : Int) := by
  have hi := inBody_body hk h1 h2 (fun s h' => Nat.le_trans (size_body (h := h) h') hl)
  have e0 : (put h x).length = (Puts.num ((body h x).length : Int)).length + (body h x).length + 4 := by unfold put; simp only [List.length_append, sum4_len]; omega
  obtain ⟨B, hB⟩ : ∃ B, body h x = B := ⟨_, rfl⟩
  rw [hB] at hi hl e0 ⊢
  obtain ⟨N, hN⟩ : ∃ N, Puts.num (B.length : Int) = N := ⟨_, rfl⟩
  have g := Plain.getNum_back ys ((B ++ s4) ++ r) (B.length : Int)
  rw [Plain.clamp_size hl] at g
  rw [hN] at g e0 ⊢
  have e : ys ++ ((N ++ (B ++ s4)) ++ r) = ys ++ (N ++ ((B ++ s4) ++ r)) := by simp only [List.append_assoc]
  rw [e]
  have g2 : Plain.getNum (ys ++ (N ++ ((B ++ s4) ++ r))) (ys.length : Int) = ((B.length : Int), ((ys.length + N.length : Nat) : Int), true) := by rw [g]; simp
  have ed : (ys ++ (N ++ ((B ++ s4) ++ r))).drop (ys.length + N.length) = B ++ (s4 ++ r) := by
    rw [← List.append_assoc, List.drop_append, List.drop_eq_nil_of_le (by simp), List.nil_append, show ys.length + N.length - (ys ++ N).length = 0 by simp, List.drop_zero, List.append_assoc]
  have et : (B ++ (s4 ++ r)).take B.length = B := by rw [List.take_append_of_le_length (Nat.le_refl _), List.take_of_length_le (Nat.le_refl _)]
  have ed2 : (ys ++ (N ++ ((B ++ s4) ++ r))).drop (ys.length + N.length + B.length) = s4 ++ r := by
    rw [← List.drop_drop, ed, List.drop_append, List.drop_eq_nil_of_le (Nat.le_refl _), Nat.sub_self, List.drop_zero, List.nil_append]
  have et2 : (s4 ++ r).take 4 = s4 := by rw [List.take_append_of_le_length (by omega), List.take_of_length_le (by omega)]
  have hlen : (ys ++ (N ++ ((B ++ s4) ++ r))).length = ys.length + N.length + B.length + 4 + r.length := by
    simp only [List.length_append]; omega
  unfold getC
  rw [g2]
  simp only [Int.toNat_natCast]
  rw [if_pos ⟨trivial, by rw [hlen]; omega⟩, ed, et, hi]
  simp only
  rw [ed2, et2]
  split
  · simp only [e0, Prod.mk.injEq, true_and, and_true]
    omega
  · rfl
/-- a commit that was put is got back, wherever it stands -/
theorem get_put (ys r : List Int) {h : Hd} {x : List ByteArray} (hk : okH h = true) (h1 : 1 ≤ x.length) (h2 : x.length ≤ 200) (hl : (body h x).length ≤ 1000000000) :
    getC (ys ++ (put h x ++ r)) (ys.length : Int) = (h, x, ((ys.length + (put h x).length : Nat) : Int), true) := by
  have g := get_sum ys r (sum4 (body h x)) hk h1 h2 hl (sum4_len _)
  rw [if_pos rfl] at g
  exact g
/-- what is got was put there -/
theorem put_get {xs : List Int} {a : Nat} {h : Hd} {x : List ByteArray} {p : Int} (hb : Byt xs) (hg : getC xs (a : Int) = (h, x, p, true)) :
    ∃ q : Nat, p = (q : Int) ∧ q = a + (put h x).length ∧ q ≤ xs.length ∧ okH h = true ∧ 1 ≤ x.length ∧ x.length ≤ 200 ∧ (body h x).length ≤ 1000000000 ∧ xs.drop a = put h x ++ xs.drop q := by
  unfold getC at hg
  split at hg
  · rename_i hc
    obtain ⟨n, p', ok, hn⟩ : ∃ n p ok, Plain.getNum xs (a : Int) = (n, p, ok) := ⟨_, _, _, rfl⟩
    rw [hn] at hg hc
    simp only at hg hc
    obtain ⟨rfl, hc⟩ := hc
    obtain ⟨q', rfl, hn0, hn9, ha, hd⟩ := Can.getNum_canon hb hn
    obtain ⟨m, rfl⟩ : ∃ m : Nat, n = (m : Int) := ⟨n.toNat, by omega⟩
    simp only [Int.toNat_natCast] at hg
    split at hg
    · rename_i h' x' hi
      split at hg
      · rename_i h4
        simp only [Prod.mk.injEq, and_true] at hg
        obtain ⟨rfl, rfl, rfl⟩ := hg
        obtain ⟨hbd, hk, h1, h2, hs⟩ := body_inBody (fun y hy => hb y (List.mem_of_mem_drop (List.mem_of_mem_take hy))) hi
        have hbl : ((xs.drop q').take m).length = m := by rw [List.length_take, List.length_drop]; omega
        have hd2 : xs.drop a = put h' x' ++ xs.drop (q' + m + 4) := by
          rw [hd]
          unfold put
          rw [← hbd, hbl, ← h4, List.append_assoc, List.append_assoc]
          congr 1
          rw [← List.drop_drop (i := 4), List.take_append_drop, ← List.drop_drop, List.take_append_drop]
        have hl := congrArg List.length hd2
        simp only [List.length_append, List.length_drop] at hl
        refine ⟨q' + m + 4, by omega, by omega, by omega, hk, h1, h2, by rw [← hbd, hbl]; omega, hd2⟩
      · simp [no12] at hg
    · simp [no12] at hg
  · simp [no12] at hg
/-- what is got of a beginning is got of all -/
theorem get_front {xs : List Int} {k a : Nat} {h : Hd} {x : List ByteArray} {p : Int} (hb : Byt xs) (hg : getC (xs.take k) (a : Int) = (h, x, p, true)) : getC xs (a : Int) = (h, x, p, true) := by
  have hb2 : Byt (xs.take k) := fun y hy => hb y (List.mem_of_mem_take hy)
  obtain ⟨q, rfl, hq, hqx, hk, h1, h2, hbl, hd⟩ := put_get hb2 hg
  have hp5 := put_pos h x
  have hqk : q ≤ xs.length := by rw [List.length_take] at hqx; omega
  have e : xs = xs.take a ++ (put h x ++ (xs.take k).drop q ++ xs.drop k) := by
    rw [← hd]
    have e1 : xs.take a = (xs.take k).take a := by rw [List.take_take]; congr 1; rw [List.length_take] at hqx; omega
    rw [e1, ← List.append_assoc, List.take_append_drop, List.take_append_drop]
  have ea : (xs.take a).length = a := by rw [List.length_take]; omega
  have g := get_put (xs.take a) ((xs.take k).drop q ++ xs.drop k) hk h1 h2 hbl
  rw [← List.append_assoc (put h x), ← e, ea, ← hq] at g
  exact g
/-- a place that is none -/
theorem getC_out {xs : List Int} {a : Int} (h : a < 0 ∨ (xs.length : Int) ≤ a) : getC xs a = no12 a := by
  unfold getC
  rw [Gets.getNum_out h, if_neg]
  rintro ⟨h1, _⟩
  cases h1
theorem getC_no {xs : List Int} {a : Int} (h : (getC xs a).2.2.2 = false) : getC xs a = no12 a := by
  unfold getC at h ⊢
  split at h
  · rename_i hc
    rw [if_pos hc]
    split at h
    · rename_i h' x' hi
      split at h
      · cases h
      · rename_i h4
        rw [if_neg h4]
    · rfl
  · rename_i hc
    rw [if_neg hc]

end Go.Proofs.Ytfpaichdkddglab.Sr

/- Chapter 11: logs as cells; the specification's side: a new log, what is right, a copy. -/
namespace Go.Proofs.Ytfpaichdkddglab.Lg
open Go.RowKit Go.Proofs.Ytfpaichdkddglab.Mem Go.Proofs.Ytfpaichdkddglab.Laws Go.Proofs.Ytfpaichdkddglab.Bytes Go.Proofs.Ytfpaichdkddglab.Sha Go.Proofs.Ytfpaichdkddglab.Tr Go.Proofs.Ytfpaichdkddglab.He
set_option linter.unusedVariables false
set_option linter.unusedSimpArgs false

/-- a log's cells: its texts, and its head -/
def lc (v : Value) (h : Hd) : Array Value := #[v, .int .i64 h.n, .string h.r]

theorem sizeL (v : Value) (h : Hd) : (Try.prog.info? 34).map (·.size) = some (lc v h).size := by
  show _ = some 3
  kernel_rfl

theorem oneL {v : Value} (h : Hd) (hv : v.oneCell' = true) : (lc v h).all (·.oneCell') = true := by
  simp [lc, Value.oneCell']
  exact hv
/-- what LogOk answers -/
def logOk (l : List ByteArray) (h : Hd) : Bool := decide (l.length ≤ 200) && eqH h (headOf l)
theorem logOk_yes {l : List ByteArray} {h : Hd} (hk : logOk l h = true) : l.length ≤ 200 ∧ h = headOf l := by
  unfold logOk at hk
  simp only [Bool.and_eq_true, decide_eq_true_eq] at hk
  exact ⟨hk.1, (eqH_iff _ _).1 hk.2⟩
theorem logOk_of {l : List ByteArray} (hl : l.length ≤ 200) : logOk l (headOf l) = true := by
  unfold logOk
  simp only [Bool.and_eq_true, decide_eq_true_eq]
  exact ⟨hl, (eqH_iff _ _).2 rfl⟩

end Go.Proofs.Ytfpaichdkddglab.Lg

/- Blocks that were made one behind the other; no program is named here. -/
namespace Go.Proofs.Ytfpaichdkddglab.Mem
open Go.RowKit
set_option linter.unusedVariables false
set_option linter.unusedSimpArgs false

theorem alloc_nth1_0 (w : World) (O0 : Obj) : (w.alloc O0).heap[w.heap.size]? = some O0 := by
  exact heap_alloc_new w O0
theorem alloc_nth2_0 (w : World) (O0 O1 : Obj) : ((w.alloc O0).alloc O1).heap[w.heap.size]? = some O0 := by
  rw [heap_alloc_old _ _ (by simp; try omega)]
  exact alloc_nth1_0 w O0
theorem alloc_nth2_1 (w : World) (O0 O1 : Obj) : ((w.alloc O0).alloc O1).heap[w.heap.size + 1]? = some O1 := by
  have h := heap_alloc_new (w.alloc O0) O1
  simpa using h
theorem alloc_nth3_0 (w : World) (O0 O1 O2 : Obj) : (((w.alloc O0).alloc O1).alloc O2).heap[w.heap.size]? = some O0 := by
  rw [heap_alloc_old _ _ (by simp; try omega)]
  exact alloc_nth2_0 w O0 O1
theorem alloc_nth3_1 (w : World) (O0 O1 O2 : Obj) : (((w.alloc O0).alloc O1).alloc O2).heap[w.heap.size + 1]? = some O1 := by
  rw [heap_alloc_old _ _ (by simp; try omega)]
  exact alloc_nth2_1 w O0 O1
theorem alloc_nth3_2 (w : World) (O0 O1 O2 : Obj) : (((w.alloc O0).alloc O1).alloc O2).heap[w.heap.size + 1 + 1]? = some O2 := by
  have h := heap_alloc_new ((w.alloc O0).alloc O1) O2
  simpa using h
theorem alloc_nth4_0 (w : World) (O0 O1 O2 O3 : Obj) : ((((w.alloc O0).alloc O1).alloc O2).alloc O3).heap[w.heap.size]? = some O0 := by
  rw [heap_alloc_old _ _ (by simp; try omega)]
  exact alloc_nth3_0 w O0 O1 O2
theorem alloc_nth4_1 (w : World) (O0 O1 O2 O3 : Obj) : ((((w.alloc O0).alloc O1).alloc O2).alloc O3).heap[w.heap.size + 1]? = some O1 := by
  rw [heap_alloc_old _ _ (by simp; try omega)]
  exact alloc_nth3_1 w O0 O1 O2
theorem alloc_nth4_2 (w : World) (O0 O1 O2 O3 : Obj) : ((((w.alloc O0).alloc O1).alloc O2).alloc O3).heap[w.heap.size + 1 + 1]? = some O2 := by
  rw [heap_alloc_old _ _ (by simp; try omega)]
  exact alloc_nth3_2 w O0 O1 O2
theorem alloc_nth4_3 (w : World) (O0 O1 O2 O3 : Obj) : ((((w.alloc O0).alloc O1).alloc O2).alloc O3).heap[w.heap.size + 1 + 1 + 1]? = some O3 := by
  have h := heap_alloc_new (((w.alloc O0).alloc O1).alloc O2) O3
  simpa using h
theorem alloc_nth5_0 (w : World) (O0 O1 O2 O3 O4 : Obj) : (((((w.alloc O0).alloc O1).alloc O2).alloc O3).alloc O4).heap[w.heap.size]? = some O0 := by
  rw [heap_alloc_old _ _ (by simp; try omega)]
  exact alloc_nth4_0 w O0 O1 O2 O3
theorem alloc_nth5_1 (w : World) (O0 O1 O2 O3 O4 : Obj) : (((((w.alloc O0).alloc O1).alloc O2).alloc O3).alloc O4).heap[w.heap.size + 1]? = some O1 := by
  rw [heap_alloc_old _ _ (by simp; try omega)]
  exact alloc_nth4_1 w O0 O1 O2 O3
theorem alloc_nth5_2 (w : World) (O0 O1 O2 O3 O4 : Obj) : (((((w.alloc O0).alloc O1).alloc O2).alloc O3).alloc O4).heap[w.heap.size + 1 + 1]? = some O2 := by
  rw [heap_alloc_old _ _ (by simp; try omega)]
  exact alloc_nth4_2 w O0 O1 O2 O3
theorem alloc_nth5_3 (w : World) (O0 O1 O2 O3 O4 : Obj) : (((((w.alloc O0).alloc O1).alloc O2).alloc O3).alloc O4).heap[w.heap.size + 1 + 1 + 1]? = some O3 := by
  rw [heap_alloc_old _ _ (by simp; try omega)]
  exact alloc_nth4_3 w O0 O1 O2 O3
theorem alloc_nth5_4 (w : World) (O0 O1 O2 O3 O4 : Obj) : (((((w.alloc O0).alloc O1).alloc O2).alloc O3).alloc O4).heap[w.heap.size + 1 + 1 + 1 + 1]? = some O4 := by
  have h := heap_alloc_new ((((w.alloc O0).alloc O1).alloc O2).alloc O3) O4
  simpa using h

end Go.Proofs.Ytfpaichdkddglab.Mem

/- Chapter 11, the specification's side: what a log takes; what it proves. -/
namespace Go.Proofs.Ytfpaichdkddglab.Lg
open Go.RowKit Go.Proofs.Ytfpaichdkddglab.Mem Go.Proofs.Ytfpaichdkddglab.Laws Go.Proofs.Ytfpaichdkddglab.Bytes Go.Proofs.Ytfpaichdkddglab.Sha Go.Proofs.Ytfpaichdkddglab.Tr Go.Proofs.Ytfpaichdkddglab.He
set_option linter.unusedVariables false
set_option linter.unusedSimpArgs false

/-- what Extend answers -/
def extend (l : List ByteArray) (hd : Hd) (t : List Hd) (h : Hd) (x : List ByteArray) : List ByteArray × Hd × Int :=
  if logOk l hd = true ∧ okH h = true ∧ h.n = ((l ++ x).length : Int) then
    if signed t h = true then
      if x.length = 0 then (l, hd, 3) else if eqH h (headOf (l ++ x)) = true then (l ++ x, h, 0) else (l, hd, 4)
    else (l, hd, 2)
  else (l, hd, 1)
theorem extend1 {l : List ByteArray} {hd : Hd} {h : Hd} {x : List ByteArray} (hk : ¬ (logOk l hd = true ∧ okH h = true ∧ h.n = ((l ++ x).length : Int))) (t : List Hd) : extend l hd t h x = (l, hd, 1) := by unfold extend; rw [if_neg hk]
theorem extend2 {l : List ByteArray} {hd : Hd} {t : List Hd} {h : Hd} {x : List ByteArray} (hk : logOk l hd = true ∧ okH h = true ∧ h.n = ((l ++ x).length : Int)) (hs : signed t h = false) : extend l hd t h x = (l, hd, 2) := by unfold extend; rw [if_pos hk, if_neg (by simp [hs])]
theorem extend3 {l : List ByteArray} {hd : Hd} {t : List Hd} {h : Hd} {x : List ByteArray} (hk : logOk l hd = true ∧ okH h = true ∧ h.n = ((l ++ x).length : Int)) (hs : signed t h = true) (hx : x.length = 0) : extend l hd t h x = (l, hd, 3) := by unfold extend; rw [if_pos hk, if_pos hs, if_pos hx]
theorem extend4 {l : List ByteArray} {hd : Hd} {t : List Hd} {h : Hd} {x : List ByteArray} (hk : logOk l hd = true ∧ okH h = true ∧ h.n = ((l ++ x).length : Int)) (hs : signed t h = true) (hx : ¬ x.length = 0) (he : eqH h (headOf (l ++ x)) = false) : extend l hd t h x = (l, hd, 4) := by unfold extend; rw [if_pos hk, if_pos hs, if_neg hx, if_neg (by simp [he])]
theorem extend0 {l : List ByteArray} {hd : Hd} {t : List Hd} {h : Hd} {x : List ByteArray} (hk : logOk l hd = true ∧ okH h = true ∧ h.n = ((l ++ x).length : Int)) (hs : signed t h = true) (hx : ¬ x.length = 0) (he : eqH h (headOf (l ++ x)) = true) : extend l hd t h x = (l ++ x, h, 0) := by unfold extend; rw [if_pos hk, if_pos hs, if_neg hx, if_pos he]
theorem size_app {l x : List ByteArray} {N : Nat} (h1 : ∀ s ∈ l, s.size ≤ N) (h2 : ∀ s ∈ x, s.size ≤ N) : ∀ s ∈ l ++ x, s.size ≤ N := by
  intro s hs
  rcases List.mem_append.1 hs with h | h
  · exact h1 s h
  · exact h2 s h

/-- what ProveIn and ProveGrown answer -/
def proveIn (l : List ByteArray) (h : Hd) (i : Int) : List ByteArray × Bool := if logOk l h = true ∧ 0 ≤ i ∧ i ≤ (l.length : Int) - 1 then (path l i.toNat, true) else ([], false)
def proveGrown (l : List ByteArray) (h : Hd) (n : Int) : List ByteArray × Bool := if logOk l h = true ∧ 1 ≤ n ∧ n ≤ (l.length : Int) - 1 then (grow l n.toNat true, true) else ([], false)

end Go.Proofs.Ytfpaichdkddglab.Lg

/- Chapter 12: stores, what commits make of them, what is opened of bytes; plain facts alone. -/
namespace Go.Proofs.Ytfpaichdkddglab.Sr
open Go.RowKit Go.Proofs.Ytfpaichdkddglab.Mem Go.Proofs.Ytfpaichdkddglab.Laws Go.Proofs.Ytfpaichdkddglab.Sha Go.Proofs.Ytfpaichdkddglab.Tr Go.Proofs.Ytfpaichdkddglab.He Go.Proofs.Ytfpaichdkddglab.Lg
set_option linter.unusedVariables false
set_option linter.unusedSimpArgs false

/-- a store: texts, head, bytes, how many are sure -/
structure Sto where
  l : List ByteArray
  h : Hd
  b : List Int
  s : Int
def new12 : Sto := ⟨[], headOf [], [], 0⟩
/-- the log that commits make, from a place on; whether they do, to the end -/
def replayF : Nat → List Int → Nat → List ByteArray → Hd → List ByteArray × Hd × Bool
  | 0, _, _, l, hd => (l, hd, true)
  | f + 1, xs, a, l, hd =>
    if a < xs.length then
      if (getC xs (a : Int)).2.2.2 = true ∧ l.length + (getC xs (a : Int)).2.1.length ≤ 200 then
        if eqH (getC xs (a : Int)).1 (headOf (l ++ (getC xs (a : Int)).2.1)) = true then
          replayF f xs (getC xs (a : Int)).2.2.1.toNat (l ++ (getC xs (a : Int)).2.1) (getC xs (a : Int)).1
        else (l ++ (getC xs (a : Int)).2.1, (getC xs (a : Int)).1, false)
      else (l, hd, false)
    else (l, hd, true)
def replay (xs : List Int) : List ByteArray × Hd × Bool := replayF xs.length xs 0 [] (headOf [])
/-- what StoreOk answers -/
def storeOk (st : Sto) : Bool := logOk st.l st.h && decide (st.b.length ≤ 60000) && decide (0 ≤ st.s ∧ st.s ≤ (st.b.length : Int)) && (replay st.b).2.2 && decide ((replay st.b).1 = st.l)
/-- a commit to a store that is right -/
def commit1 (st : Sto) (t : List Hd) (h : Hd) (x : List ByteArray) : Sto × Int :=
  if (extend st.l st.h t h x).2.2 = 0 then (⟨(extend st.l st.h t h x).1, (extend st.l st.h t h x).2.1, st.b ++ put h x, st.s⟩, 0) else (st, (extend st.l st.h t h x).2.2)
def commit (st : Sto) (t : List Hd) (h : Hd) (x : List ByteArray) : Sto × Int :=
  if storeOk st = true ∧ st.b.length + (put h x).length ≤ 60000 then commit1 st t h x else (st, 1)
def makeSure (st : Sto) : Sto := if storeOk st = true then ⟨st.l, st.h, st.b, (st.b.length : Int)⟩ else st
/-- how many bytes a crash leaves -/
def fallN (st : Sto) (keep : Int) : Nat :=
  let n := min (max st.s 0).toNat st.b.length
  n + min (max keep 0).toNat (st.b.length - n)
def fall (st : Sto) (keep : Int) : List Int := st.b.take (fallN st keep)
/-- what is opened of bytes, from a place on, and how many commits there were -/
def openF : Nat → List Hd → List Int → Nat → Sto → Nat → Sto × Nat
  | 0, _, _, _, st, n => (st, n)
  | f + 1, t, xs, a, st, n =>
    if a < xs.length then
      if (getC xs (a : Int)).2.2.2 = true ∧ (commit1 st t (getC xs (a : Int)).1 (getC xs (a : Int)).2.1).2 = 0 then
        openF f t xs (getC xs (a : Int)).2.2.1.toNat (commit1 st t (getC xs (a : Int)).1 (getC xs (a : Int)).2.1).1 (n + 1)
      else (st, n)
    else (st, n)
def openS (t : List Hd) (xs : List Int) : Sto × Nat :=
  let r := openF (xs.take 60000).length t (xs.take 60000) 0 new12 0
  (⟨r.1.l, r.1.h, r.1.b, (r.1.b.length : Int)⟩, r.2)

theorem extend_good {l x : List ByteArray} {hd h : Hd} {t : List Hd} (hc : (extend l hd t h x).2.2 = 0) :
    logOk l hd = true ∧ okH h = true ∧ signed t h = true ∧ 1 ≤ x.length ∧ (l ++ x).length ≤ 200 ∧ h = headOf (l ++ x) ∧ extend l hd t h x = (l ++ x, h, 0) := by
  unfold extend at hc
  split at hc
  · rename_i hk
    split at hc
    · rename_i hs
      split at hc
      · simp at hc
      · rename_i hx
        split at hc
        · rename_i he
          have := okH_parts hk.2.1
          refine ⟨hk.1, hk.2.1, hs, by omega, by have := hk.2.2; omega, (eqH_iff _ _).1 he, extend0 hk hs hx he⟩
        · simp at hc
    · simp at hc
  · simp at hc
theorem extend_of {l x : List ByteArray} {hd : Hd} {t : List Hd} (hk : logOk l hd = true) (hx : 1 ≤ x.length) (hl : (l ++ x).length ≤ 200) (hs : signed t (headOf (l ++ x)) = true) : extend l hd t (headOf (l ++ x)) x = (l ++ x, headOf (l ++ x), 0) := by
  have hn : (headOf (l ++ x)).n = ((l ++ x).length : Int) := by unfold headOf; rw [if_pos hl]
  have ho : okH (headOf (l ++ x)) = true := by
    unfold okH
    rw [decide_eq_true_eq, hn]
    refine ⟨⟨by omega, by omega⟩, ?_⟩
    unfold headOf
    rw [if_pos hl]
    exact root_size _
  exact extend0 ⟨hk, ho, hn⟩ hs (by omega) ((eqH_iff _ _).2 rfl)
theorem commit1_good {st : Sto} {t : List Hd} {h : Hd} {x : List ByteArray} (hc : (commit1 st t h x).2 = 0) :
    logOk st.l st.h = true ∧ okH h = true ∧ signed t h = true ∧ 1 ≤ x.length ∧ (st.l ++ x).length ≤ 200 ∧ h = headOf (st.l ++ x) ∧ (commit1 st t h x).1 = ⟨st.l ++ x, h, st.b ++ put h x, st.s⟩ := by
  unfold commit1 at hc ⊢
  split at hc
  · rename_i he
    obtain ⟨a, b, c, d, e, f, g⟩ := extend_good he
    refine ⟨a, b, c, d, e, f, ?_⟩
    rw [g, if_pos rfl]
  · rename_i he
    exact absurd hc he
theorem commit1_of {st : Sto} {t : List Hd} {x : List ByteArray} (hk : logOk st.l st.h = true) (hx : 1 ≤ x.length) (hl : (st.l ++ x).length ≤ 200) (hs : signed t (headOf (st.l ++ x)) = true) :
    commit1 st t (headOf (st.l ++ x)) x = (⟨st.l ++ x, headOf (st.l ++ x), st.b ++ put (headOf (st.l ++ x)) x, st.s⟩, 0) := by
  unfold commit1
  rw [extend_of hk hx hl hs, if_pos rfl]
/-- what is got stays got with more behind -/
theorem get_more {xs r : List Int} {a : Nat} {h : Hd} {x : List ByteArray} {p : Int} (hb : Byt xs) (hg : getC xs (a : Int) = (h, x, p, true)) : getC (xs ++ r) (a : Int) = (h, x, p, true) := by
  obtain ⟨q, rfl, hq, hqx, hk, h1, h2, hbl, hd⟩ := put_get hb hg
  have e : xs ++ r = xs.take a ++ (put h x ++ (xs.drop q ++ r)) := by
    rw [← List.append_assoc (put h x), ← hd, ← List.append_assoc, List.take_append_drop]
  have ea : (xs.take a).length = a := by rw [List.length_take]; omega
  have g := get_put (xs.take a) (xs.drop q ++ r) hk h1 h2 hbl
  rw [← e, ea, ← hq] at g
  exact g
/-- commits that make a log, and one more behind them -/
theorem replay_app {h : Hd} {x L : List ByteArray} {H : Hd} (xs : List Int) (hb : Byt xs) (hk : okH h = true) (h1 : 1 ≤ x.length) (hl : (L ++ x).length ≤ 200) (hbl : (body h x).length ≤ 1000000000) (he : h = headOf (L ++ x)) :
    ∀ (f g a : Nat) (l : List ByteArray) (hd : Hd), a ≤ xs.length → xs.length - a ≤ f → (xs ++ put h x).length - a ≤ g → replayF f xs a l hd = (L, H, true) → replayF g (xs ++ put h x) a l hd = (L ++ x, h, true) := by
  have hp := put_pos h x
  have hlx : x.length ≤ 200 := by rw [List.length_append] at hl; omega
  have last : ∀ (g : Nat) (hd : Hd), 1 ≤ g → (xs ++ put h x).length - xs.length ≤ g → replayF g (xs ++ put h x) xs.length L hd = (L ++ x, h, true) := by
    intro g hd hg1 hg
    obtain ⟨g, rfl⟩ : ∃ k, g = k + 1 := ⟨g - 1, by omega⟩
    have gp := get_put xs [] hk h1 hlx hbl
    rw [List.append_nil] at gp
    rw [replayF, if_pos (by rw [List.length_append]; omega), gp]
    simp only [Int.toNat_natCast]
    rw [List.length_append] at hl
    rw [if_pos ⟨trivial, hl⟩, if_pos ((eqH_iff _ _).2 he)]
    cases g with
    | zero => rfl
    | succ g => rw [replayF, if_neg (by rw [List.length_append]; omega)]
  intro f
  induction f with
  | zero =>
    intro g a l hd ha hf hg hr
    have : a = xs.length := by omega
    subst this
    rw [replayF] at hr
    simp only [Prod.mk.injEq] at hr
    obtain ⟨rfl, rfl, _⟩ := hr
    exact last g hd (by rw [List.length_append] at hg; omega) hg
  | succ f ih =>
    intro g a l hd ha hf hg hr
    by_cases hlt : a < xs.length
    · obtain ⟨h', x', p, ok, hgc⟩ : ∃ h' x' p ok, getC xs (a : Int) = (h', x', p, ok) := ⟨_, _, _, _, rfl⟩
      rw [replayF, if_pos hlt, hgc] at hr
      simp only at hr
      split at hr
      · rename_i hc
        obtain ⟨rfl, hc⟩ := hc
        split at hr
        · rename_i hee
          obtain ⟨q, rfl, hq, hqx, _⟩ := put_get hb hgc
          have hp' := put_pos h' x'
          obtain ⟨g, rfl⟩ : ∃ k, g = k + 1 := ⟨g - 1, by rw [List.length_append] at hg; omega⟩
          rw [replayF, if_pos (by rw [List.length_append]; omega), get_more hb hgc]
          simp only
          rw [if_pos ⟨trivial, hc⟩, if_pos hee]
          exact ih g _ _ _ (by simp only [Int.toNat_natCast]; omega) (by simp only [Int.toNat_natCast]; omega) (by simp only [Int.toNat_natCast]; omega) hr
        · simp at hr
      · simp at hr
    · have : a = xs.length := by omega
      subst this
      rw [replayF, if_neg hlt] at hr
      simp only [Prod.mk.injEq] at hr
      obtain ⟨rfl, rfl, _⟩ := hr
      exact last g hd (by rw [List.length_append] at hg; omega) hg
/-- a store that commits made -/
def Good (st : Sto) : Prop := logOk st.l st.h = true ∧ replay st.b = (st.l, st.h, true) ∧ Byt st.b
theorem good_new : Good new12 := ⟨logOk_of (l := []) (by simp), rfl, fun x hx => by cases hx⟩
theorem good_commit {st : Sto} {t : List Hd} {h : Hd} {x : List ByteArray} (hg : Good st) (hc : (commit1 st t h x).2 = 0) (hbl : (body h x).length ≤ 1000000000) : Good (commit1 st t h x).1 := by
  obtain ⟨a, b, c, d, e, f, g⟩ := commit1_good hc
  rw [g]
  refine ⟨by rw [f]; exact logOk_of e, ?_, hg.2.2.app (put_byt h x)⟩
  exact replay_app st.b hg.2.2 b d e hbl f _ _ _ _ _ (Nat.zero_le _) (by omega) (Nat.le_refl _) hg.2.1
theorem good_ok {st : Sto} (hg : Good st) (hl : st.b.length ≤ 60000) (hs : 0 ≤ st.s ∧ st.s ≤ (st.b.length : Int)) : storeOk st = true := by
  unfold storeOk
  rw [hg.1, hg.2.1]
  simp [hl, hs]
theorem ok_parts {st : Sto} (h : storeOk st = true) : logOk st.l st.h = true ∧ st.b.length ≤ 60000 ∧ 0 ≤ st.s ∧ st.s ≤ (st.b.length : Int) ∧ (replay st.b).2.2 = true ∧ (replay st.b).1 = st.l := by
  unfold storeOk at h
  simp only [Bool.and_eq_true, decide_eq_true_eq] at h
  obtain ⟨⟨⟨⟨a, b⟩, c⟩, d⟩, e⟩ := h
  exact ⟨a, b, c.1, c.2, d, e⟩
/-- the head that a replay has is that of its texts -/
theorem replay_head (xs : List Int) : ∀ (f a : Nat) (l : List ByteArray) (hd : Hd), hd = headOf l → (replayF f xs a l hd).2.2 = true → (replayF f xs a l hd).2.1 = headOf (replayF f xs a l hd).1 := by
  intro f
  induction f with
  | zero => intro a l hd h _; exact h
  | succ f ih =>
    intro a l hd h hr
    rw [replayF] at hr ⊢
    split
    · rename_i h1
      rw [if_pos h1] at hr
      split
      · rename_i h2
        rw [if_pos h2] at hr
        split
        · rename_i h3
          rw [if_pos h3] at hr
          exact ih _ _ _ ((eqH_iff _ _).1 h3) hr
        · rename_i h3
          rw [if_neg h3] at hr
          cases hr
      · rename_i h2
        rw [if_neg h2] at hr
        cases hr
    · exact h
theorem ok_good {st : Sto} (hb : Byt st.b) (h : storeOk st = true) : Good st := by
  obtain ⟨a, b, c, d, e, f⟩ := ok_parts h
  refine ⟨a, ?_, hb⟩
  have hh := replay_head st.b st.b.length 0 [] (headOf []) rfl e
  have h2 : (replay st.b).2.1 = headOf (replay st.b).1 := hh
  rw [f] at h2
  have h3 := (logOk_yes a).2
  exact Prod.ext f (Prod.ext (by rw [h3]; exact h2) e)
/-- a commit that is good leaves a store right -/
theorem commit_ok {st : Sto} {t : List Hd} {h : Hd} {x : List ByteArray} (hb : Byt st.b) (hc : (commit st t h x).2 = 0) : storeOk (commit st t h x).1 = true ∧ storeOk st = true ∧ st.b.length + (put h x).length ≤ 60000 ∧ commit st t h x = commit1 st t h x ∧ (commit1 st t h x).2 = 0 := by
  unfold commit at hc ⊢
  split at hc
  · rename_i hk
    rw [if_pos hk]
    have hbl : (body h x).length ≤ 1000000000 := by
      have : (put h x).length = (Puts.num ((body h x).length : Int)).length + (body h x).length + 4 := by unfold put; simp only [List.length_append, sum4_len]; omega
      omega
    have hg := good_commit (ok_good hb hk.1) hc hbl
    obtain ⟨_, _, c, d, _, _⟩ := ok_parts hk.1
    obtain ⟨_, _, _, _, _, _, g⟩ := commit1_good hc
    refine ⟨good_ok hg (by rw [g]; simp only [List.length_append]; exact hk.2) ?_, hk.1, hk.2, rfl, hc⟩
    rw [g]
    simp only [List.length_append]
    omega
  · simp at hc

/-- what is opened has the beginning of what the commits make -/
theorem open_replay {L : List ByteArray} {H : Hd} (t : List Hd) (xs : List Int) : ∀ (f g a : Nat) (st : Sto) (hd : Hd) (n : Nat), replayF f xs a st.l hd = (L, H, true) → xs.length - a ≤ f → Byt xs → a ≤ xs.length → (openF g t xs a st n).1.l <+: L := by
  intro f
  induction f with
  | zero =>
    intro g a st hd n hr hf hb ha
    rw [replayF] at hr
    simp only [Prod.mk.injEq] at hr
    obtain ⟨rfl, _, _⟩ := hr
    cases g with
    | zero => exact List.prefix_refl _
    | succ g => rw [openF, if_neg (by omega)]; exact List.prefix_refl _
  | succ f ih =>
    intro g a st hd n hr hf hb ha
    have hpre : st.l <+: L := by
      have : ∀ (f a : Nat) (l : List ByteArray) (hd : Hd), l <+: (replayF f xs a l hd).1 := by
        intro f
        induction f with
        | zero => intro a l hd; exact List.prefix_refl _
        | succ f ih2 =>
          intro a l hd
          rw [replayF]
          split
          · split
            · split
              · exact (List.prefix_append _ _).trans (ih2 _ _ _)
              · exact List.prefix_append _ _
            · exact List.prefix_refl _
          · exact List.prefix_refl _
      have := this (f + 1) a st.l hd
      rw [hr] at this
      exact this
    cases g with
    | zero => exact hpre
    | succ g =>
      rw [openF]
      split
      · rename_i hlt
        split
        · rename_i hc
          obtain ⟨h', x', p, ok, hgc⟩ : ∃ h' x' p ok, getC xs (a : Int) = (h', x', p, ok) := ⟨_, _, _, _, rfl⟩
          rw [hgc] at hc ⊢
          simp only at hc ⊢
          obtain ⟨rfl, hc⟩ := hc
          obtain ⟨_, _, _, d, e, he, hs⟩ := commit1_good hc
          obtain ⟨q, rfl, hq, hqx, _⟩ := put_get hb hgc
          have hp' := put_pos h' x'
          rw [replayF, if_pos hlt, hgc] at hr
          simp only at hr
          rw [List.length_append] at e
          rw [if_pos ⟨trivial, e⟩, if_pos ((eqH_iff _ _).2 he)] at hr
          rw [hs]
          simp only [Int.toNat_natCast] at hr ⊢
          exact ih g q ⟨st.l ++ x', h', st.b ++ put h' x', st.s⟩ h' (n + 1) hr (by omega) hb hqx
        · exact hpre
      · exact hpre
/-- the texts only grow -/
theorem open_grows (t : List Hd) (xs : List Int) : ∀ (g a : Nat) (st : Sto) (n : Nat), st.l <+: (openF g t xs a st n).1.l ∧ n ≤ (openF g t xs a st n).2 := by
  intro g
  induction g with
  | zero => intro a st n; exact ⟨List.prefix_refl _, Nat.le_refl _⟩
  | succ g ih =>
    intro a st n
    rw [openF]
    split
    · split
      · rename_i hc
        obtain ⟨_, _, _, d, e, he, hs⟩ := commit1_good hc.2
        have h := ih (getC xs (a : Int)).2.2.1.toNat (commit1 st t (getC xs (a : Int)).1 (getC xs (a : Int)).2.1).1 (n + 1)
        refine ⟨List.IsPrefix.trans ?_ h.1, by omega⟩
        rw [hs]
        exact List.prefix_append _ _
      · exact ⟨List.prefix_refl _, Nat.le_refl _⟩
    · exact ⟨List.prefix_refl _, Nat.le_refl _⟩
/-- what is opened of a beginning is the beginning of what is opened of all -/
theorem open_front (t : List Hd) (xs : List Int) (k : Nat) (hb : Byt xs) : ∀ (g f a : Nat) (st : Sto) (n : Nat), a ≤ (xs.take k).length → xs.length - a ≤ f → (openF g t (xs.take k) a st n).1.l <+: (openF f t xs a st n).1.l := by
  intro g
  induction g with
  | zero => intro f a st n _ _; exact (open_grows t xs f a st n).1
  | succ g ih =>
    intro f a st n ha hf
    rw [openF]
    split
    · rename_i hlt
      split
      · rename_i hc
        obtain ⟨h', x', p, ok, hgc⟩ : ∃ h' x' p ok, getC (xs.take k) (a : Int) = (h', x', p, ok) := ⟨_, _, _, _, rfl⟩
        rw [hgc] at hc ⊢
        simp only at hc ⊢
        obtain ⟨rfl, hc⟩ := hc
        have hb2 : Byt (xs.take k) := fun y hy => hb y (List.mem_of_mem_take hy)
        obtain ⟨q, rfl, hq, hqx, _⟩ := put_get hb2 hgc
        have hp' := put_pos h' x'
        have hlt2 : a < xs.length := by rw [List.length_take] at hlt; omega
        have hgc2 := get_front hb hgc
        obtain ⟨f, rfl⟩ : ∃ j, f = j + 1 := ⟨f - 1, by omega⟩
        conv => rhs; rw [openF, if_pos hlt2, hgc2]
        simp only
        rw [if_pos ⟨trivial, hc⟩]
        simp only [Int.toNat_natCast]
        exact ih f q _ _ hqx (by omega)
      · exact (open_grows t xs f a st n).1
    · exact (open_grows t xs f a st n).1
/-- what is opened is good, and no longer than the bytes -/
theorem open_good (t : List Hd) (xs : List Int) (hb : Byt xs) : ∀ (g a : Nat) (st : Sto) (n : Nat), Good st → st.b.length ≤ a → a ≤ xs.length → Good (openF g t xs a st n).1 ∧ (openF g t xs a st n).1.b.length ≤ xs.length ∧ (openF g t xs a st n).1.s = st.s := by
  intro g
  induction g with
  | zero => intro a st n hg hl ha; exact ⟨hg, Nat.le_trans hl ha, rfl⟩
  | succ g ih =>
    intro a st n hg hl ha
    rw [openF]
    split
    · rename_i hlt
      split
      · rename_i hc
        obtain ⟨h', x', p, ok, hgc⟩ : ∃ h' x' p ok, getC xs (a : Int) = (h', x', p, ok) := ⟨_, _, _, _, rfl⟩
        rw [hgc] at hc ⊢
        simp only at hc ⊢
        obtain ⟨rfl, hc⟩ := hc
        obtain ⟨q, rfl, hq, hqx, _, _, _, hbl, _⟩ := put_get hb hgc
        obtain ⟨_, _, _, _, _, _, hs⟩ := commit1_good hc
        have h := ih q (commit1 st t h' x').1 (n + 1) (good_commit hg hc hbl) (by rw [hs]; simp only [List.length_append]; omega) hqx
        simp only [Int.toNat_natCast]
        refine ⟨h.1, h.2.1, ?_⟩
        rw [h.2.2, hs]
      · exact ⟨hg, by simp only; omega, rfl⟩
    · exact ⟨hg, by simp only; omega, rfl⟩
theorem openS_ok (t : List Hd) {xs : List Int} (hb : Byt xs) : storeOk (openS t xs).1 = true ∧ (openS t xs).1.s = ((openS t xs).1.b.length : Int) := by
  have hb2 : Byt (xs.take 60000) := fun y hy => hb y (List.mem_of_mem_take hy)
  obtain ⟨h1, h2, h3⟩ := open_good t (xs.take 60000) hb2 (xs.take 60000).length 0 new12 0 good_new (Nat.le_refl _) (Nat.zero_le _)
  refine ⟨?_, rfl⟩
  have h60 : (xs.take 60000).length ≤ 60000 := by rw [List.length_take]; omega
  exact good_ok (st := ⟨_, _, _, _⟩) ⟨h1.1, h1.2.1, h1.2.2⟩ (Nat.le_trans h2 h60) ⟨Int.natCast_nonneg _, Int.le_refl _⟩

/-- a store that was made by commits that the table signs: opened of its bytes it comes back -/
def Made (t : List Hd) (st : Sto) : Prop := Good st ∧ ∀ g, st.b.length ≤ g → (openF g t st.b 0 new12 0).1.l = st.l ∧ (openF g t st.b 0 new12 0).1.h = st.h ∧ (openF g t st.b 0 new12 0).1.b = st.b
theorem made_new (t : List Hd) : Made t new12 := by
  refine ⟨good_new, fun g _ => ?_⟩
  cases g with
  | zero => exact ⟨rfl, rfl, rfl⟩
  | succ g => exact ⟨rfl, rfl, rfl⟩
/-- opened with one more commit behind -/
theorem open_app {h : Hd} {x : List ByteArray} (t : List Hd) (xs : List Int) (hb : Byt xs) (S : Sto) (hk : okH h = true) (h1 : 1 ≤ x.length) (hlx : x.length ≤ 200) (hbl : (body h x).length ≤ 1000000000) (hS : S.b = xs) (hSl : ∀ T : Sto, T.l = S.l → T.h = S.h → (commit1 T t h x).2 = 0) :
    ∀ (f g a : Nat) (st : Sto) (n m : Nat), a ≤ xs.length → st.b = xs.take a → xs.length - a ≤ f → (xs ++ put h x).length - a ≤ g →
      (openF f t xs a st n).1.l = S.l → (openF f t xs a st n).1.h = S.h → (openF f t xs a st n).1.b = S.b → (openF g t (xs ++ put h x) a st m).1.l = S.l ++ x ∧ (openF g t (xs ++ put h x) a st m).1.h = h ∧ (openF g t (xs ++ put h x) a st m).1.b = S.b ++ put h x := by
  have hp := put_pos h x
  have last : ∀ (g : Nat) (st : Sto) (m : Nat), st.l = S.l → st.h = S.h → st.b = S.b → 1 ≤ g → (openF g t (xs ++ put h x) xs.length st m).1.l = S.l ++ x ∧ (openF g t (xs ++ put h x) xs.length st m).1.h = h ∧ (openF g t (xs ++ put h x) xs.length st m).1.b = S.b ++ put h x := by
    intro g st m e1 e2 e3 hg
    obtain ⟨g, rfl⟩ : ∃ k, g = k + 1 := ⟨g - 1, by omega⟩
    have gp := get_put xs [] hk h1 hlx hbl
    rw [List.append_nil] at gp
    have hc := hSl st e1 e2
    obtain ⟨_, _, _, _, _, _, hs⟩ := commit1_good hc
    rw [openF, if_pos (by rw [List.length_append]; omega), gp]
    simp only [Int.toNat_natCast]
    rw [if_pos ⟨trivial, hc⟩, hs]
    cases g with
    | zero => exact ⟨by rw [openF, e1], rfl, by rw [openF, e3]⟩
    | succ g =>
      rw [openF, if_neg (by rw [List.length_append]; omega)]
      exact ⟨by rw [e1], rfl, by rw [e3]⟩
  intro f
  induction f with
  | zero =>
    intro g a st n m ha hst hf hg e1 e2 e3
    have : a = xs.length := by omega
    subst this
    rw [openF] at e1 e2 e3
    exact last g st m e1 e2 e3 (by rw [List.length_append] at hg; omega)
  | succ f ih =>
    intro g a st n m ha hst hf hg e1 e2 e3
    by_cases hlt : a < xs.length
    · obtain ⟨h', x', p, ok, hgc⟩ : ∃ h' x' p ok, getC xs (a : Int) = (h', x', p, ok) := ⟨_, _, _, _, rfl⟩
      rw [openF, if_pos hlt, hgc] at e1 e2 e3
      simp only at e1 e2 e3
      by_cases hc : ok = true ∧ (commit1 st t h' x').2 = 0
      · rw [if_pos hc] at e1 e2 e3
        obtain ⟨rfl, hc⟩ := hc
        obtain ⟨q, rfl, hq, hqx, _, _, _, _, hd⟩ := put_get hb hgc
        have hp' := put_pos h' x'
        obtain ⟨_, _, _, _, _, _, hs⟩ := commit1_good hc
        obtain ⟨g, rfl⟩ : ∃ k, g = k + 1 := ⟨g - 1, by rw [List.length_append] at hg; omega⟩
        have hgm := get_more (r := put h x) hb hgc
        have hst2 : (commit1 st t h' x').1.b = xs.take q := by
          rw [hs]
          simp only
          rw [hst, hq]
          have e5 : xs.take (a + (put h' x').length) = xs.take a ++ (xs.drop a).take (put h' x').length := List.take_add ..
          rw [e5, hd, List.take_append_of_le_length (Nat.le_refl _), List.take_of_length_le (Nat.le_refl _)]
        have r := ih g q (commit1 st t h' x').1 (n + 1) (m + 1) hqx hst2 (by omega) (by omega) e1 e2 e3
        rw [openF, if_pos (by rw [List.length_append]; omega), hgm]
        simp only
        rw [if_pos ⟨trivial, hc⟩]
        exact r
      · rw [if_neg hc] at e3
        simp only at e3
        rw [hst, hS] at e3
        have := congrArg List.length e3
        rw [List.length_take] at this
        omega
    · have : a = xs.length := by omega
      subst this
      rw [openF, if_neg hlt] at e1 e2 e3
      exact last g st m e1 e2 e3 (by rw [List.length_append] at hg; omega)
theorem made_commit {t : List Hd} {st : Sto} {h : Hd} {x : List ByteArray} (hm : Made t st) (hc : (commit1 st t h x).2 = 0) (hbl : (body h x).length ≤ 1000000000) : Made t (commit1 st t h x).1 := by
  obtain ⟨a, b, c, d, e, f, g⟩ := commit1_good hc
  refine ⟨good_commit hm.1 hc hbl, fun k hk => ?_⟩
  rw [g] at hk ⊢
  simp only at hk ⊢
  have hlx : x.length ≤ 200 := by rw [List.length_append] at e; omega
  obtain ⟨e1, e2, e3⟩ := hm.2 st.b.length (Nat.le_refl _)
  have hSl : ∀ T : Sto, T.l = st.l → T.h = st.h → (commit1 T t h x).2 = 0 := by
    intro T e4 e5
    rw [f, ← e4]
    rw [commit1_of (by rw [e4, e5]; exact a) d (by rw [e4]; exact e) (by rw [e4, ← f]; exact c)]
  exact open_app t st.b hm.1.2.2 st b d hlx hbl rfl hSl st.b.length k 0 new12 0 0 (Nat.zero_le _) rfl (by omega) (by omega) e1 e2 e3
theorem made_sure {t : List Hd} {st : Sto} (hm : Made t st) (s : Int) : Made t ⟨st.l, st.h, st.b, s⟩ := ⟨⟨hm.1.1, hm.1.2.1, hm.1.2.2⟩, hm.2⟩

end Go.Proofs.Ytfpaichdkddglab.Sr
