/- Texts in one: Sr1, Sr3, Lg2, Sr2, GetT, GetTs. -/
import Derived.Test.YtfpaichdkddglaaDoorPk11
import Derived.Test.YtfpaichdkddglaaDoorPk10
import Derived.Test.YtfpaichdkddglaaDoorPk9
import Derived.Test.YtfpaichdkddglaaDoorPk5
import Derived.Test.YtfpaichdkddglaaDoorPk8
import Derived.Test.YtfpaichdkddglaaDoorPk2
/- Chapter 12: commits as bytes and back, what a store holds; plain facts alone. -/
namespace Go.Proofs.YtfpaichdkddglaaDoor.Sr
open Go.RowKit Go.Proofs.YtfpaichdkddglaaDoor.Mem Go.Proofs.YtfpaichdkddglaaDoor.Laws Go.Proofs.YtfpaichdkddglaaDoor.Sha Go.Proofs.YtfpaichdkddglaaDoor.Tr Go.Proofs.YtfpaichdkddglaaDoor.He
set_option linter.unusedVariables false
set_option linter.unusedSimpArgs false

/-- the body of a commit, its sum, its bytes -/
def body (h : Hd) (x : List ByteArray) : List Int := Puts.num h.n ++ Puts.tx h.r ++ (Puts.num (x.length : Int) ++ Puts.txs x)
def sum4 (b : List Int) : List Int := (digest b).take 4
def put (h : Hd) (x : List ByteArray) : List Int := Puts.num ((body h x).length : Int) ++ (body h x ++ sum4 (body h x))
def putC (h : Hd) (x : List ByteArray) : List Int := if okH h = true ∧ 1 ≤ x.length ∧ x.length ≤ 200 then put h x else []
theorem txs_byt : ∀ l : List ByteArray, Byt (Puts.txs l) := by
  intro l
  induction l with
  | nil => intro x hx; cases hx
  | cons s r ih => exact (Puts.tx_byt s).app ih
theorem body_byt (h : Hd) (x : List ByteArray) : Byt (body h x) := ((Puts.num_byt _).app (Puts.tx_byt _)).app ((Puts.num_byt _).app (txs_byt _))
theorem sum4_byt (b : List Int) : Byt (sum4 b) := fun x hx => digest_byt b x (List.mem_of_mem_take hx)
theorem sum4_len (b : List Int) : (sum4 b).length = 4 := by unfold sum4; rw [List.length_take, digest_len]; rfl
theorem put_byt (h : Hd) (x : List ByteArray) : Byt (put h x) := (Puts.num_byt _).app ((body_byt _ _).app (sum4_byt _))
theorem putC_byt (h : Hd) (x : List ByteArray) : Byt (putC h x) := by
  unfold putC
  split
  · exact put_byt h x
  · intro y hy; cases hy
theorem body_len (h : Hd) (x : List ByteArray) : (body h x).length ≤ h.r.size + 15 + 5 * x.length + Puts.tot x := by
  have h1 := Puts.tx_len h.r
  have h2 := Puts.txs_len x
  have h3 := (Puts.num_len h.n).2
  have h4 := (Puts.num_len (x.length : Int)).2
  unfold body
  simp only [List.length_append]
  omega
theorem put_len (h : Hd) (x : List ByteArray) : (put h x).length ≤ (body h x).length + 9 := by
  have h3 := (Puts.num_len ((body h x).length : Int)).2
  have h4 := sum4_len (body h x)
  unfold put
  simp only [List.length_append]
  omega
theorem put_pos (h : Hd) (x : List ByteArray) : 5 ≤ (put h x).length := by
  have h3 := (Puts.num_len ((body h x).length : Int)).1
  have h4 := sum4_len (body h x)
  unfold put
  simp only [List.length_append]
  omega

/-- no commit -/
def no12 (a : Int) : Hd × List ByteArray × Int × Bool := (hd0, [], a, false)
/-- what stands in a body: head and texts, if it is right -/
def inBody (b : List Int) : Option (Hd × List ByteArray) :=
  if (Plain.getNum b 0).2.2 = true ∧ (Plain.getText b (Plain.getNum b 0).2.1).2.2 = true ∧ (Plain.getTexts b (Plain.getText b (Plain.getNum b 0).2.1).2.1).2.2 = true ∧
      (Plain.getTexts b (Plain.getText b (Plain.getNum b 0).2.1).2.1).2.1 = (b.length : Int) ∧ okH ⟨(Plain.getNum b 0).1, (Plain.getText b (Plain.getNum b 0).2.1).1⟩ = true ∧
      ¬ (Plain.getTexts b (Plain.getText b (Plain.getNum b 0).2.1).2.1).1.length = 0
  then some (⟨(Plain.getNum b 0).1, (Plain.getText b (Plain.getNum b 0).2.1).1⟩, (Plain.getTexts b (Plain.getText b (Plain.getNum b 0).2.1).2.1).1)
  else none
/-- the commit at a place -/
def getC (xs : List Int) (a : Int) : Hd × List ByteArray × Int × Bool :=
  if (Plain.getNum xs a).2.2 = true ∧ (Plain.getNum xs a).1 ≤ (xs.length : Int) - (Plain.getNum xs a).2.1 - 4 then
    match inBody ((xs.drop (Plain.getNum xs a).2.1.toNat).take (Plain.getNum xs a).1.toNat) with
    | some (h, x) =>
      if (xs.drop ((Plain.getNum xs a).2.1.toNat + (Plain.getNum xs a).1.toNat)).take 4 = sum4 ((xs.drop (Plain.getNum xs a).2.1.toNat).take (Plain.getNum xs a).1.toNat) then
        (h, x, (Plain.getNum xs a).2.1 + (Plain.getNum xs a).1 + 4, true)
      else no12 a
    | none => no12 a
  else no12 a
theorem okH_parts {h : Hd} (hk : okH h = true) : 0 ≤ h.n ∧ h.n ≤ 200 ∧ h.r.size = 32 := by
  unfold okH at hk
  simp only [decide_eq_true_eq] at hk
  exact ⟨hk.1.1, hk.1.2, hk.2⟩
/-- a body that was made is read -/
theorem inBody_body {h : Hd} {x : List ByteArray} (hk : okH h = true) (h1 : 1 ≤ x.length) (h2 : x.length ≤ 200) (hs : ∀ s ∈ x, s.size ≤ 1000000000) : inBody (body h x) = some (h, x) := by
  obtain ⟨k0, k1, k2⟩ := okH_parts hk
  have e1 : Plain.getNum (body h x) 0 = (h.n, ((Puts.num h.n).length : Int), true) := by
    have g := Plain.getNum_back [] (Puts.tx h.r ++ (Puts.num (x.length : Int) ++ Puts.txs x)) h.n
    have e : body h x = [] ++ (Puts.num h.n ++ (Puts.tx h.r ++ (Puts.num (x.length : Int) ++ Puts.txs x))) := by unfold body; simp only [List.append_assoc, List.nil_append]
    have ec : Plain.clampN h.n = h.n := by unfold Plain.clampN; rw [if_neg (by omega), if_neg (by omega)]
    rw [e]
    simpa [ec] using g
  have e2 : Plain.getText (body h x) ((Puts.num h.n).length : Int) = (h.r, (((Puts.num h.n).length + (Puts.tx h.r).length : Nat) : Int), true) := by
    have g := Plain.getText_back (Puts.num h.n) (Puts.num (x.length : Int) ++ Puts.txs x) h.r (by omega)
    have e : body h x = Puts.num h.n ++ (Puts.tx h.r ++ (Puts.num (x.length : Int) ++ Puts.txs x)) := by unfold body; simp only [List.append_assoc]
    rw [e, g]
    simp
  have e3 : Plain.getTexts (body h x) (((Puts.num h.n).length + (Puts.tx h.r).length : Nat) : Int) = (x, ((body h x).length : Int), true) := by
    have g := Plain.getTexts_back (Puts.num h.n ++ Puts.tx h.r) [] x h2 hs
    have e : body h x = (Puts.num h.n ++ Puts.tx h.r ++ Puts.num (x.length : Int) ++ Puts.txs x) ++ [] := by unfold body; simp only [List.append_assoc, List.append_nil]
    rw [List.length_append] at g
    rw [e, g]
    simp
  unfold inBody
  rw [e1]
  simp only
  rw [e2]
  simp only
  rw [e3]
  simp only
  rw [if_pos ⟨trivial, trivial, trivial, trivial, hk, by omega⟩]
theorem size_txs {t : ByteArray} : ∀ l : List ByteArray, t ∈ l → t.size ≤ (Puts.txs l).length := by
  intro l
  induction l with
  | nil => intro h; cases h
  | cons a r ih =>
    intro h
    simp only [Puts.txs, List.length_append]
    rcases List.mem_cons.1 h with rfl | h
    · have : (Puts.tx t).length = (Puts.num (t.size : Int)).length + t.size := by unfold Puts.tx; rw [List.length_append, sb_len]
      omega
    · have := ih h; omega
/-- what is read of a body was made so -/
theorem body_inBody {b : List Int} {h : Hd} {x : List ByteArray} (hb : Byt b) (hi : inBody b = some (h, x)) : b = body h x ∧ okH h = true ∧ 1 ≤ x.length ∧ x.length ≤ 200 ∧ ∀ s ∈ x, s.size ≤ b.length := by
  unfold inBody at hi
  split at hi
  · rename_i hc
    simp only [Option.some.injEq, Prod.mk.injEq] at hi
    obtain ⟨n, p, ok, hg⟩ : ∃ n p ok, Plain.getNum b 0 = (n, p, ok) := ⟨_, _, _, rfl⟩
    rw [hg] at hi hc
    simp only at hi hc
    obtain ⟨r, q, ok2, hg2⟩ : ∃ r q ok, Plain.getText b p = (r, q, ok) := ⟨_, _, _, rfl⟩
    rw [hg2] at hi hc
    simp only at hi hc
    obtain ⟨l, s, ok3, hg3⟩ : ∃ l s ok, Plain.getTexts b q = (l, s, ok) := ⟨_, _, _, rfl⟩
    have hlen := Plain.getTexts_len b q
    rw [hg3] at hi hc hlen
    simp only at hi hc hlen
    obtain ⟨rfl, rfl, rfl, hs, hk, hl⟩ := hc
    obtain ⟨rfl, rfl⟩ := hi
    obtain ⟨p', rfl, _, hn9, _, hd⟩ := Can.getNum_canon (a := 0) hb hg
    obtain ⟨q', rfl, _, hd2⟩ := Can.getText_canon hb hg2
    obtain ⟨s', hs', hd3⟩ := Can.getTexts_canon hb hg3
    have es : s' = b.length := by omega
    rw [es, List.drop_of_length_le (Nat.le_refl _), List.append_nil] at hd3
    rw [List.drop_zero] at hd
    have eb : b = body ⟨n, r⟩ l := by
      conv => lhs; rw [hd, hd2, hd3]
      unfold body
      simp only [List.append_assoc]
    refine ⟨eb, hk, by omega, hlen, ?_⟩
    intro t ht
    have h5 := size_txs l ht
    rw [eb]
    unfold body
    simp only [List.length_append]
    omega
  · cases hi

theorem size_body {h : Hd} {x : List ByteArray} {t : ByteArray} (ht : t ∈ x) : t.size ≤ (body h x).length := by
  have := size_txs x ht
  unfold body
  simp only [List.length_append]
  omega
/-- what is got of a commit whose last four bytes are any -/
theorem get_sum (ys r s4 : List Int) {h : Hd} {x : List ByteArray} (hk : okH h = true) (h1 : 1 ≤ x.length) (h2 : x.length ≤ 200) (hl : (body h x).length ≤ 1000000000) (h4 : s4.length = 4) :
    getC (ys ++ (Puts.num ((body h x).length : Int) ++ (body h x ++ s4) ++ r)) (ys.length : Int) = if s4 = sum4 (body h x) then (h, x, ((ys.length + (put h x).length : Nat) : Int), true) else no12 (ys.length : Int) := by
  have hi := inBody_body hk h1 h2 (fun s h' => Nat.le_trans (size_body (h := h) h') hl)
  have e0 : (put h x).length = (Puts.num ((body h x).length : Int)).length + (body h x).length + 4 := by unfold put; simp only [List.length_append, sum4_len]; omega
  obtain ⟨B, hB⟩ : ∃ B, body h x = B := ⟨_, rfl⟩
  rw [hB] at hi hl e0 ⊢
  obtain ⟨N, hN⟩ : ∃ N, Puts.num (B.length : Int) = N := ⟨_, rfl⟩
  have g := Plain.getNum_back ys ((B ++ s4) ++ r) (B.length : Int)
  rw [Plain.clamp_size hl] at g
  rw [hN] at g e0 ⊢
  have e : ys ++ ((N ++ (B ++ s4)) ++ r) = ys ++ (N ++ ((B ++ s4) ++ r)) := by simp only [List.append_assoc]
  rw [e]
  have g2 : Plain.getNum (ys ++ (N ++ ((B ++ s4) ++ r))) (ys.length : Int) = ((B.length : Int), ((ys.length + N.length : Nat) : Int), true) := by rw [g]; simp
  have ed : (ys ++ (N ++ ((B ++ s4) ++ r))).drop (ys.length + N.length) = B ++ (s4 ++ r) := by
    rw [← List.append_assoc, List.drop_append, List.drop_eq_nil_of_le (by simp), List.nil_append, show ys.length + N.length - (ys ++ N).length = 0 by simp, List.drop_zero, List.append_assoc]
  have et : (B ++ (s4 ++ r)).take B.length = B := by rw [List.take_append_of_le_length (Nat.le_refl _), List.take_of_length_le (Nat.le_refl _)]
  have ed2 : (ys ++ (N ++ ((B ++ s4) ++ r))).drop (ys.length + N.length + B.length) = s4 ++ r := by
    rw [← List.drop_drop, ed, List.drop_append, List.drop_eq_nil_of_le (Nat.le_refl _), Nat.sub_self, List.drop_zero, List.nil_append]
  have et2 : (s4 ++ r).take 4 = s4 := by rw [List.take_append_of_le_length (by omega), List.take_of_length_le (by omega)]
  have hlen : (ys ++ (N ++ ((B ++ s4) ++ r))).length = ys.length + N.length + B.length + 4 + r.length := by
    simp only [List.length_append]; omega
  unfold getC
  rw [g2]
  simp only [Int.toNat_natCast]
  rw [if_pos ⟨trivial, by rw [hlen]; omega⟩, ed, et, hi]
  simp only
  rw [ed2, et2]
  split
  · simp only [e0, Prod.mk.injEq, true_and, and_true]
    omega
  · rfl
/-- a commit that was put is got back, wherever it stands -/
theorem get_put (ys r : List Int) {h : Hd} {x : List ByteArray} (hk : okH h = true) (h1 : 1 ≤ x.length) (h2 : x.length ≤ 200) (hl : (body h x).length ≤ 1000000000) :
    getC (ys ++ (put h x ++ r)) (ys.length : Int) = (h, x, ((ys.length + (put h x).length : Nat) : Int), true) := by
  have g := get_sum ys r (sum4 (body h x)) hk h1 h2 hl (sum4_len _)
  rw [if_pos rfl] at g
  exact g
/-- what is got was put there -/
theorem put_get {xs : List Int} {a : Nat} {h : Hd} {x : List ByteArray} {p : Int} (hb : Byt xs) (hg : getC xs (a : Int) = (h, x, p, true)) :
    ∃ q : Nat, p = (q : Int) ∧ q = a + (put h x).length ∧ q ≤ xs.length ∧ okH h = true ∧ 1 ≤ x.length ∧ x.length ≤ 200 ∧ (body h x).length ≤ 1000000000 ∧ xs.drop a = put h x ++ xs.drop q := by
  unfold getC at hg
  split at hg
  · rename_i hc
    obtain ⟨n, p', ok, hn⟩ : ∃ n p ok, Plain.getNum xs (a : Int) = (n, p, ok) := ⟨_, _, _, rfl⟩
    rw [hn] at hg hc
    simp only at hg hc
    obtain ⟨rfl, hc⟩ := hc
    obtain ⟨q', rfl, hn0, hn9, ha, hd⟩ := Can.getNum_canon hb hn
    obtain ⟨m, rfl⟩ : ∃ m : Nat, n = (m : Int) := ⟨n.toNat, by omega⟩
    simp only [Int.toNat_natCast] at hg
    split at hg
    · rename_i h' x' hi
      split at hg
      · rename_i h4
        simp only [Prod.mk.injEq, and_true] at hg
        obtain ⟨rfl, rfl, rfl⟩ := hg
        obtain ⟨hbd, hk, h1, h2, hs⟩ := body_inBody (fun y hy => hb y (List.mem_of_mem_drop (List.mem_of_mem_take hy))) hi
        have hbl : ((xs.drop q').take m).length = m := by rw [List.length_take, List.length_drop]; omega
        have hd2 : xs.drop a = put h' x' ++ xs.drop (q' + m + 4) := by
          rw [hd]
          unfold put
          rw [← hbd, hbl, ← h4, List.append_assoc, List.append_assoc]
          congr 1
          rw [← List.drop_drop (i := 4), List.take_append_drop, ← List.drop_drop, List.take_append_drop]
        have hl := congrArg List.length hd2
        simp only [List.length_append, List.length_drop] at hl
        refine ⟨q' + m + 4, by omega, by omega, by omega, hk, h1, h2, by rw [← hbd, hbl]; omega, hd2⟩
      · simp [no12] at hg
    · simp [no12] at hg
  · simp [no12] at hg
/-- what is got of a beginning is got of all -/
theorem get_front {xs : List Int} {k a : Nat} {h : Hd} {x : List ByteArray} {p : Int} (hb : Byt xs) (hg : getC (xs.take k) (a : Int) = (h, x, p, true)) : getC xs (a : Int) = (h, x, p, true) := by
  have hb2 : Byt (xs.take k) := fun y hy => hb y (List.mem_of_mem_take hy)
  obtain ⟨q, rfl, hq, hqx, hk, h1, h2, hbl, hd⟩ := put_get hb2 hg
  have hp5 := put_pos h x
  have hqk : q ≤ xs.length := by rw [List.length_take] at hqx; omega
  have e : xs = xs.take a ++ (put h x ++ (xs.take k).drop q ++ xs.drop k) := by
    rw [← hd]
    have e1 : xs.take a = (xs.take k).take a := by rw [List.take_take]; congr 1; rw [List.length_take] at hqx; omega
    rw [e1, ← List.append_assoc, List.take_append_drop, List.take_append_drop]
  have ea : (xs.take a).length = a := by rw [List.length_take]; omega
  have g := get_put (xs.take a) ((xs.take k).drop q ++ xs.drop k) hk h1 h2 hbl
  rw [← List.append_assoc (put h x), ← e, ea, ← hq] at g
  exact g
/-- a place that is none -/
theorem getC_out {xs : List Int} {a : Int} (h : a < 0 ∨ (xs.length : Int) ≤ a) : getC xs a = no12 a := by
  unfold getC
  rw [Gets.getNum_out h, if_neg]
  rintro ⟨h1, _⟩
  cases h1
theorem getC_no {xs : List Int} {a : Int} (h : (getC xs a).2.2.2 = false) : getC xs a = no12 a := by
  unfold getC at h ⊢
  split at h
  · rename_i hc
    rw [if_pos hc]
    split at h
    · rename_i h' x' hi
      split at h
      · cases h
      · rename_i h4
        rw [if_neg h4]
    · rfl
  · rename_i hc
    rw [if_neg hc]

end Go.Proofs.YtfpaichdkddglaaDoor.Sr

/- Chapter 12, plain: a commit with a byte of its sum turned, or cut short, is none. -/
namespace Go.Proofs.YtfpaichdkddglaaDoor.Sr
open Go.RowKit Go.Proofs.YtfpaichdkddglaaDoor.Mem Go.Proofs.YtfpaichdkddglaaDoor.He
set_option linter.unusedVariables false

theorem set_app {α : Type} (A B : List α) (j : Nat) (y : α) : (A ++ B).set (A.length + j) y = A ++ B.set j y := by
  rw [List.set_append, if_neg (by omega), Nat.add_sub_cancel_left]
theorem get_app {α : Type} (A B : List α) (j : Nat) : (A ++ B)[A.length + j]? = B[j]? := by
  rw [List.getElem?_append_right (by omega), Nat.add_sub_cancel_left]
theorem turn_byte : ∀ (c : Fin 256) (k : Fin 8), bits .xor .u8 (c.val : Int) ((2 : Int) ^ k.val) ≠ (c.val : Int) ∧ 0 ≤ bits .xor .u8 (c.val : Int) ((2 : Int) ^ k.val) ∧ bits .xor .u8 (c.val : Int) ((2 : Int) ^ k.val) ≤ 255 := by decide +kernel
theorem pow8 {k : Nat} (hk : k < 8) : IntKind.u8.wrap ((2 : Int) ^ k) = (2 : Int) ^ k := by
  have : ∀ k : Fin 8, IntKind.u8.wrap ((2 : Int) ^ k.val) = (2 : Int) ^ k.val := by decide +kernel
  exact this ⟨k, hk⟩
/-- with one of its last four bytes turned it is none -/
theorem get_turned {h : Hd} {x : List ByteArray} (hk : okH h = true) (h1 : 1 ≤ x.length) (h2 : x.length ≤ 200) (hl : (body h x).length ≤ 1000000000) {i : Nat} (hi : i < 4) {y : Int} (hy : (put h x)[(put h x).length - 1 - i]? ≠ some y) :
    getC ((put h x).set ((put h x).length - 1 - i) y) 0 = no12 0 := by
  have e0 : (put h x).length = (Puts.num ((body h x).length : Int)).length + (body h x).length + 4 := by unfold put; simp only [List.length_append, sum4_len]; omega
  have e1 : (put h x).length - 1 - i = (Puts.num ((body h x).length : Int)).length + ((body h x).length + (3 - i)) := by omega
  rw [e1] at hy ⊢
  have e2 : (put h x).set ((Puts.num ((body h x).length : Int)).length + ((body h x).length + (3 - i))) y = Puts.num ((body h x).length : Int) ++ (body h x ++ (sum4 (body h x)).set (3 - i) y) := by
    unfold put
    rw [set_app, set_app]
  have e3 : (put h x)[(Puts.num ((body h x).length : Int)).length + ((body h x).length + (3 - i))]? = (sum4 (body h x))[3 - i]? := by
    unfold put
    rw [get_app, get_app]
  rw [e2]
  rw [e3] at hy
  have g := get_sum [] [] ((sum4 (body h x)).set (3 - i) y) hk h1 h2 hl (by rw [List.length_set, sum4_len])
  simp only [List.nil_append, List.append_nil, List.length_nil] at g
  rw [if_neg (fun e => hy (by rw [← e]; rw [List.getElem?_set_self (by rw [sum4_len]; omega)]))] at g
  exact g
/-- cut short it is none -/
theorem get_cut {h : Hd} {x : List ByteArray} (hk : okH h = true) (h1 : 1 ≤ x.length) (h2 : x.length ≤ 200) (hl : (body h x).length ≤ 1000000000) {k : Nat} (hk2 : k < (put h x).length) : (getC ((put h x).take k) 0).2.2.2 = false := by
  rcases hb : (getC ((put h x).take k) 0) with ⟨h', x', p, ok⟩
  cases ok with
  | false => rfl
  | true =>
    exfalso
    have hb1 : getC ((put h x).take k) ((0 : Nat) : Int) = (h', x', p, true) := hb
    have g1 := get_front (put_byt h x) hb1
    have g2 := get_put [] [] hk h1 h2 hl
    simp only [List.nil_append, List.append_nil, List.length_nil] at g2
    rw [g2] at g1
    simp only [Prod.mk.injEq] at g1
    obtain ⟨q, e, hq, hqx, _⟩ := put_get (fun y hy => put_byt h x y (List.mem_of_mem_take hy)) hb1
    rw [List.length_take] at hqx
    omega

end Go.Proofs.YtfpaichdkddglaaDoor.Sr

/- Chapter 11, the specification's side: what a log takes; what it proves. -/
namespace Go.Proofs.YtfpaichdkddglaaDoor.Lg
open Go.RowKit Go.Proofs.YtfpaichdkddglaaDoor.Mem Go.Proofs.YtfpaichdkddglaaDoor.Laws Go.Proofs.YtfpaichdkddglaaDoor.Bytes Go.Proofs.YtfpaichdkddglaaDoor.Sha Go.Proofs.YtfpaichdkddglaaDoor.Tr Go.Proofs.YtfpaichdkddglaaDoor.He
set_option linter.unusedVariables false
set_option linter.unusedSimpArgs false

/-- what Extend answers -/
def extend (l : List ByteArray) (hd : Hd) (t : List Hd) (h : Hd) (x : List ByteArray) : List ByteArray × Hd × Int :=
  if logOk l hd = true ∧ okH h = true ∧ h.n = ((l ++ x).length : Int) then
    if signed t h = true then
      if x.length = 0 then (l, hd, 3) else if eqH h (headOf (l ++ x)) = true then (l ++ x, h, 0) else (l, hd, 4)
    else (l, hd, 2)
  else (l, hd, 1)
theorem extend1 {l : List ByteArray} {hd : Hd} {h : Hd} {x : List ByteArray} (hk : ¬ (logOk l hd = true ∧ okH h = true ∧ h.n = ((l ++ x).length : Int))) (t : List Hd) : extend l hd t h x = (l, hd, 1) := by unfold extend; rw [if_neg hk]
theorem extend2 {l : List ByteArray} {hd : Hd} {t : List Hd} {h : Hd} {x : List ByteArray} (hk : logOk l hd = true ∧ okH h = true ∧ h.n = ((l ++ x).length : Int)) (hs : signed t h = false) : extend l hd t h x = (l, hd, 2) := by unfold extend; rw [if_pos hk, if_neg (by simp [hs])]
theorem extend3 {l : List ByteArray} {hd : Hd} {t : List Hd} {h : Hd} {x : List ByteArray} (hk : logOk l hd = true ∧ okH h = true ∧ h.n = ((l ++ x).length : Int)) (hs : signed t h = true) (hx : x.length = 0) : extend l hd t h x = (l, hd, 3) := by unfold extend; rw [if_pos hk, if_pos hs, if_pos hx]
theorem extend4 {l : List ByteArray} {hd : Hd} {t : List Hd} {h : Hd} {x : List ByteArray} (hk : logOk l hd = true ∧ okH h = true ∧ h.n = ((l ++ x).length : Int)) (hs : signed t h = true) (hx : ¬ x.length = 0) (he : eqH h (headOf (l ++ x)) = false) : extend l hd t h x = (l, hd, 4) := by unfold extend; rw [if_pos hk, if_pos hs, if_neg hx, if_neg (by simp [he])]
theorem extend0 {l : List ByteArray} {hd : Hd} {t : List Hd} {h : Hd} {x : List ByteArray} (hk : logOk l hd = true ∧ okH h = true ∧ h.n = ((l ++ x).length : Int)) (hs : signed t h = true) (hx : ¬ x.length = 0) (he : eqH h (headOf (l ++ x)) = true) : extend l hd t h x = (l ++ x, h, 0) := by unfold extend; rw [if_pos hk, if_pos hs, if_neg hx, if_pos he]
theorem size_app {l x : List ByteArray} {N : Nat} (h1 : ∀ s ∈ l, s.size ≤ N) (h2 : ∀ s ∈ x, s.size ≤ N) : ∀ s ∈ l ++ x, s.size ≤ N := by
  intro s hs
  rcases List.mem_append.1 hs with h | h
  · exact h1 s h
  · exact h2 s h

/-- what ProveIn and ProveGrown answer -/
def proveIn (l : List ByteArray) (h : Hd) (i : Int) : List ByteArray × Bool := if logOk l h = true ∧ 0 ≤ i ∧ i ≤ (l.length : Int) - 1 then (path l i.toNat, true) else ([], false)
def proveGrown (l : List ByteArray) (h : Hd) (n : Int) : List ByteArray × Bool := if logOk l h = true ∧ 1 ≤ n ∧ n ≤ (l.length : Int) - 1 then (grow l n.toNat true, true) else ([], false)

end Go.Proofs.YtfpaichdkddglaaDoor.Lg

/- Chapter 12: stores, what commits make of them, what is opened of bytes; plain facts alone. -/
namespace Go.Proofs.YtfpaichdkddglaaDoor.Sr
open Go.RowKit Go.Proofs.YtfpaichdkddglaaDoor.Mem Go.Proofs.YtfpaichdkddglaaDoor.Laws Go.Proofs.YtfpaichdkddglaaDoor.Sha Go.Proofs.YtfpaichdkddglaaDoor.Tr Go.Proofs.YtfpaichdkddglaaDoor.He Go.Proofs.YtfpaichdkddglaaDoor.Lg
set_option linter.unusedVariables false
set_option linter.unusedSimpArgs false

/-- a store: texts, head, bytes, how many are sure -/
structure Sto where
  l : List ByteArray
  h : Hd
  b : List Int
  s : Int
def new12 : Sto := ⟨[], headOf [], [], 0⟩
/-- the log that commits make, from a place on; whether they do, to the end -/
def replayF : Nat → List Int → Nat → List ByteArray → Hd → List ByteArray × Hd × Bool
  | 0, _, _, l, hd => (l, hd, true)
  | f + 1, xs, a, l, hd =>
    if a < xs.length then
      if (getC xs (a : Int)).2.2.2 = true ∧ l.length + (getC xs (a : Int)).2.1.length ≤ 200 then
        if eqH (getC xs (a : Int)).1 (headOf (l ++ (getC xs (a : Int)).2.1)) = true then
          replayF f xs (getC xs (a : Int)).2.2.1.toNat (l ++ (getC xs (a : Int)).2.1) (getC xs (a : Int)).1
        else (l ++ (getC xs (a : Int)).2.1, (getC xs (a : Int)).1, false)
      else (l, hd, false)
    else (l, hd, true)
def replay (xs : List Int) : List ByteArray × Hd × Bool := replayF xs.length xs 0 [] (headOf [])
/-- what StoreOk answers -/
def storeOk (st : Sto) : Bool := logOk st.l st.h && decide (st.b.length ≤ 60000) && decide (0 ≤ st.s ∧ st.s ≤ (st.b.length : Int)) && (replay st.b).2.2 && decide ((replay st.b).1 = st.l)
/-- a commit to a store that is right -/
def commit1 (st : Sto) (t : List Hd) (h : Hd) (x : List ByteArray) : Sto × Int :=
  if (extend st.l st.h t h x).2.2 = 0 then (⟨(extend st.l st.h t h x).1, (extend st.l st.h t h x).2.1, st.b ++ put h x, st.s⟩, 0) else (st, (extend st.l st.h t h x).2.2)
def commit (st : Sto) (t : List Hd) (h : Hd) (x : List ByteArray) : Sto × Int :=
  if storeOk st = true ∧ st.b.length + (put h x).length ≤ 60000 then commit1 st t h x else (st, 1)
def makeSure (st : Sto) : Sto := if storeOk st = true then ⟨st.l, st.h, st.b, (st.b.length : Int)⟩ else st
/-- how many bytes a crash leaves -/
def fallN (st : Sto) (keep : Int) : Nat :=
  let n := min (max st.s 0).toNat st.b.length
  n + min (max keep 0).toNat (st.b.length - n)
def fall (st : Sto) (keep : Int) : List Int := st.b.take (fallN st keep)
/-- what is opened of bytes, from a place on, and how many commits there were -/
def openF : Nat → List Hd → List Int → Nat → Sto → Nat → Sto × Nat
  | 0, _, _, _, st, n => (st, n)
  | f + 1, t, xs, a, st, n =>
    if a < xs.length then
      if (getC xs (a : Int)).2.2.2 = true ∧ (commit1 st t (getC xs (a : Int)).1 (getC xs (a : Int)).2.1).2 = 0 then
        openF f t xs (getC xs (a : Int)).2.2.1.toNat (commit1 st t (getC xs (a : Int)).1 (getC xs (a : Int)).2.1).1 (n + 1)
      else (st, n)
    else (st, n)
def openS (t : List Hd) (xs : List Int) : Sto × Nat :=
  let r := openF (xs.take 60000).length t (xs.take 60000) 0 new12 0
  (⟨r.1.l, r.1.h, r.1.b, (r.1.b.length : Int)⟩, r.2)

theorem extend_good {l x : List ByteArray} {hd h : Hd} {t : List Hd} (hc : (extend l hd t h x).2.2 = 0) :
    logOk l hd = true ∧ okH h = true ∧ signed t h = true ∧ 1 ≤ x.length ∧ (l ++ x).length ≤ 200 ∧ h = headOf (l ++ x) ∧ extend l hd t h x = (l ++ x, h, 0) := by
  unfold extend at hc
  split at hc
  · rename_i hk
    split at hc
    · rename_i hs
      split at hc
      · simp at hc
      · rename_i hx
        split at hc
        · rename_i he
          have := okH_parts hk.2.1
          refine ⟨hk.1, hk.2.1, hs, by omega, by have := hk.2.2; omega, (eqH_iff _ _).1 he, extend0 hk hs hx he⟩
        · simp at hc
    · simp at hc
  · simp at hc
theorem extend_of {l x : List ByteArray} {hd : Hd} {t : List Hd} (hk : logOk l hd = true) (hx : 1 ≤ x.length) (hl : (l ++ x).length ≤ 200) (hs : signed t (headOf (l ++ x)) = true) : extend l hd t (headOf (l ++ x)) x = (l ++ x, headOf (l ++ x), 0) := by
  have hn : (headOf (l ++ x)).n = ((l ++ x).length : Int) := by unfold headOf; rw [if_pos hl]
  have ho : okH (headOf (l ++ x)) = true := by
    unfold okH
    rw [decide_eq_true_eq, hn]
    refine ⟨⟨by omega, by omega⟩, ?_⟩
    unfold headOf
    rw [if_pos hl]
    exact root_size _
  exact extend0 ⟨hk, ho, hn⟩ hs (by omega) ((eqH_iff _ _).2 rfl)
theorem commit1_good {st : Sto} {t : List Hd} {h : Hd} {x : List ByteArray} (hc : (commit1 st t h x).2 = 0) :
    logOk st.l st.h = true ∧ okH h = true ∧ signed t h = true ∧ 1 ≤ x.length ∧ (st.l ++ x).length ≤ 200 ∧ h = headOf (st.l ++ x) ∧ (commit1 st t h x).1 = ⟨st.l ++ x, h, st.b ++ put h x, st.s⟩ := by
  unfold commit1 at hc ⊢
  split at hc
  · rename_i he
    obtain ⟨a, b, c, d, e, f, g⟩ := extend_good he
    refine ⟨a, b, c, d, e, f, ?_⟩
    rw [g, if_pos rfl]
  · rename_i he
    exact absurd hc he
theorem commit1_of {st : Sto} {t : List Hd} {x : List ByteArray} (hk : logOk st.l st.h = true) (hx : 1 ≤ x.length) (hl : (st.l ++ x).length ≤ 200) (hs : signed t (headOf (st.l ++ x)) = true) :
    commit1 st t (headOf (st.l ++ x)) x = (⟨st.l ++ x, headOf (st.l ++ x), st.b ++ put (headOf (st.l ++ x)) x, st.s⟩, 0) := by
  unfold commit1
  rw [extend_of hk hx hl hs, if_pos rfl]
/-- what is got stays got with more behind -/
theorem get_more {xs r : List Int} {a : Nat} {h : Hd} {x : List ByteArray} {p : Int} (hb : Byt xs) (hg : getC xs (a : Int) = (h, x, p, true)) : getC (xs ++ r) (a : Int) = (h, x, p, true) := by
  obtain ⟨q, rfl, hq, hqx, hk, h1, h2, hbl, hd⟩ := put_get hb hg
  have e : xs ++ r = xs.take a ++ (put h x ++ (xs.drop q ++ r)) := by
    rw [← List.append_assoc (put h x), ← hd, ← List.append_assoc, List.take_append_drop]
  have ea : (xs.take a).length = a := by rw [List.length_take]; omega
  have g := get_put (xs.take a) (xs.drop q ++ r) hk h1 h2 hbl
  rw [← e, ea, ← hq] at g
  exact g
/-- commits that make a log, and one more behind them -/
theorem replay_app {h : Hd} {x L : List ByteArray} {H : Hd} (xs : List Int) (hb : Byt xs) (hk : okH h = true) (h1 : 1 ≤ x.length) (hl : (L ++ x).length ≤ 200) (hbl : (body h x).length ≤ 1000000000) (he : h = headOf (L ++ x)) :
    ∀ (f g a : Nat) (l : List ByteArray) (hd : Hd), a ≤ xs.length → xs.length - a ≤ f → (xs ++ put h x).length - a ≤ g → replayF f xs a l hd = (L, H, true) → replayF g (xs ++ put h x) a l hd = (L ++ x, h, true) := by
  have hp := put_pos h x
  have hlx : x.length ≤ 200 := by rw [List.length_append] at hl; omega
  have last : ∀ (g : Nat) (hd : Hd), 1 ≤ g → (xs ++ put h x).length - xs.length ≤ g → replayF g (xs ++ put h x) xs.length L hd = (L ++ x, h, true) := by
    intro g hd hg1 hg
    obtain ⟨g, rfl⟩ : ∃ k, g = k + 1 := ⟨g - 1, by omega⟩
    have gp := get_put xs [] hk h1 hlx hbl
    rw [List.append_nil] at gp
    rw [replayF, if_pos (by rw [List.length_append]; omega), gp]
    simp only [Int.toNat_natCast]
    rw [List.length_append] at hl
    rw [if_pos ⟨trivial, hl⟩, if_pos ((eqH_iff _ _).2 he)]
    cases g with
    | zero => rfl
    | succ g => rw [replayF, if_neg (by rw [List.length_append]; omega)]
  intro f
  induction f with
  | zero =>
    intro g a l hd ha hf hg hr
    have : a = xs.length := by omega
    subst this
    rw [replayF] at hr
    simp only [Prod.mk.injEq] at hr
    obtain ⟨rfl, rfl, _⟩ := hr
    exact last g hd (by rw [List.length_append] at hg; omega) hg
  | succ f ih =>
    intro g a l hd ha hf hg hr
    by_cases hlt : a < xs.length
    · obtain ⟨h', x', p, ok, hgc⟩ : ∃ h' x' p ok, getC xs (a : Int) = (h', x', p, ok) := ⟨_, _, _, _, rfl⟩
      rw [replayF, if_pos hlt, hgc] at hr
      simp only at hr
      split at hr
      · rename_i hc
        obtain ⟨rfl, hc⟩ := hc
        split at hr
        · rename_i hee
          obtain ⟨q, rfl, hq, hqx, _⟩ := put_get hb hgc
          have hp' := put_pos h' x'
          obtain ⟨g, rfl⟩ : ∃ k, g = k + 1 := ⟨g - 1, by rw [List.length_append] at hg; omega⟩
          rw [replayF, if_pos (by rw [List.length_append]; omega), get_more hb hgc]
          simp only
          rw [if_pos ⟨trivial, hc⟩, if_pos hee]
          exact ih g _ _ _ (by simp only [Int.toNat_natCast]; omega) (by simp only [Int.toNat_natCast]; omega) (by simp only [Int.toNat_natCast]; omega) hr
        · simp at hr
      · simp at hr
    · have : a = xs.length := by omega
      subst this
      rw [replayF, if_neg hlt] at hr
      simp only [Prod.mk.injEq] at hr
      obtain ⟨rfl, rfl, _⟩ := hr
      exact last g hd (by rw [List.length_append] at hg; omega) hg
/-- a store that commits made -/
def Good (st : Sto) : Prop := logOk st.l st.h = true ∧ replay st.b = (st.l, st.h, true) ∧ Byt st.b
theorem good_new : Good new12 := ⟨logOk_of (l := []) (by simp), rfl, fun x hx => by cases hx⟩
theorem good_commit {st : Sto} {t : List Hd} {h : Hd} {x : List ByteArray} (hg : Good st) (hc : (commit1 st t h x).2 = 0) (hbl : (body h x).length ≤ 1000000000) : Good (commit1 st t h x).1 := by
  obtain ⟨a, b, c, d, e, f, g⟩ := commit1_good hc
  rw [g]
  refine ⟨by rw [f]; exact logOk_of e, ?_, hg.2.2.app (put_byt h x)⟩
  exact replay_app st.b hg.2.2 b d e hbl f _ _ _ _ _ (Nat.zero_le _) (by omega) (Nat.le_refl _) hg.2.1
theorem good_ok {st : Sto} (hg : Good st) (hl : st.b.length ≤ 60000) (hs : 0 ≤ st.s ∧ st.s ≤ (st.b.length : Int)) : storeOk st = true := by
  unfold storeOk
  rw [hg.1, hg.2.1]
  simp [hl, hs]
theorem ok_parts {st : Sto} (h : storeOk st = true) : logOk st.l st.h = true ∧ st.b.length ≤ 60000 ∧ 0 ≤ st.s ∧ st.s ≤ (st.b.length : Int) ∧ (replay st.b).2.2 = true ∧ (replay st.b).1 = st.l := by
  unfold storeOk at h
  simp only [Bool.and_eq_true, decide_eq_true_eq] at h
  obtain ⟨⟨⟨⟨a, b⟩, c⟩, d⟩, e⟩ := h
  exact ⟨a, b, c.1, c.2, d, e⟩
/-- the head that a replay has is that of its texts -/
theorem replay_head (xs : List Int) : ∀ (f a : Nat) (l : List ByteArray) (hd : Hd), hd = headOf l → (replayF f xs a l hd).2.2 = true → (replayF f xs a l hd).2.1 = headOf (replayF f xs a l hd).1 := by
  intro f
  induction f with
  | zero => intro a l hd h _; exact h
  | succ f ih =>
    intro a l hd h hr
    rw [replayF] at hr ⊢
    split
    · rename_i h1
      rw [if_pos h1] at hr
      split
      · rename_i h2
        rw [if_pos h2] at hr
        split
        · rename_i h3
          rw [if_pos h3] at hr
          exact ih _ _ _ ((eqH_iff _ _).1 h3) hr
        · rename_i h3
          rw [if_neg h3] at hr
          cases hr
      · rename_i h2
        rw [if_neg h2] at hr
        cases hr
    · exact h
theorem ok_good {st : Sto} (hb : Byt st.b) (h : storeOk st = true) : Good st := by
  obtain ⟨a, b, c, d, e, f⟩ := ok_parts h
  refine ⟨a, ?_, hb⟩
  have hh := replay_head st.b st.b.length 0 [] (headOf []) rfl e
  have h2 : (replay st.b).2.1 = headOf (replay st.b).1 := hh
  rw [f] at h2
  have h3 := (logOk_yes a).2
  exact Prod.ext f (Prod.ext (by rw [h3]; exact h2) e)
/-- a commit that is good leaves a store right -/
theorem commit_ok {st : Sto} {t : List Hd} {h : Hd} {x : List ByteArray} (hb : Byt st.b) (hc : (commit st t h x).2 = 0) : storeOk (commit st t h x).1 = true ∧ storeOk st = true ∧ st.b.length + (put h x).length ≤ 60000 ∧ commit st t h x = commit1 st t h x ∧ (commit1 st t h x).2 = 0 := by
  unfold commit at hc ⊢
  split at hc
  · rename_i hk
    rw [if_pos hk]
    have hbl : (body h x).length ≤ 1000000000 := by
      have : (put h x).length = (Puts.num ((body h x).length : Int)).length + (body h x).length + 4 := by unfold put; simp only [List.length_append, sum4_len]; omega
      omega
    have hg := good_commit (ok_good hb hk.1) hc hbl
    obtain ⟨_, _, c, d, _, _⟩ := ok_parts hk.1
    obtain ⟨_, _, _, _, _, _, g⟩ := commit1_good hc
    refine ⟨good_ok hg (by rw [g]; simp only [List.length_append]; exact hk.2) ?_, hk.1, hk.2, rfl, hc⟩
    rw [g]
    simp only [List.length_append]
    omega
  · simp at hc

/-- what is opened has the beginning of what the commits make -/
theorem open_replay {L : List ByteArray} {H : Hd} (t : List Hd) (xs : List Int) : ∀ (f g a : Nat) (st : Sto) (hd : Hd) (n : Nat), replayF f xs a st.l hd = (L, H, true) → xs.length - a ≤ f → Byt xs → a ≤ xs.length → (openF g t xs a st n).1.l <+: L := by
  intro f
  induction f with
  | zero =>
    intro g a st hd n hr hf hb ha
    rw [replayF] at hr
    simp only [Prod.mk.injEq] at hr
    obtain ⟨rfl, _, _⟩ := hr
    cases g with
    | zero => exact List.prefix_refl _
    | succ g => rw [openF, if_neg (by omega)]; exact List.prefix_refl _
  | succ f ih =>
    intro g a st hd n hr hf hb ha
    have hpre : st.l <+: L := by
      have : ∀ (f a : Nat) (l : List ByteArray) (hd : Hd), l <+: (replayF f xs a l hd).1 := by
        intro f
        induction f with
        | zero => intro a l hd; exact List.prefix_refl _
        | succ f ih2 =>
          intro a l hd
          rw [replayF]
          split
          · split
            · split
              · exact (List.prefix_append _ _).trans (ih2 _ _ _)
              · exact List.prefix_append _ _
            · exact List.prefix_refl _
          · exact List.prefix_refl _
      have := this (f + 1) a st.l hd
      rw [hr] at this
      exact this
    cases g with
    | zero => exact hpre
    | succ g =>
      rw [openF]
      split
      · rename_i hlt
        split
        · rename_i hc
          obtain ⟨h', x', p, ok, hgc⟩ : ∃ h' x' p ok, getC xs (a : Int) = (h', x', p, ok) := ⟨_, _, _, _, rfl⟩
          rw [hgc] at hc ⊢
          simp only at hc ⊢
          obtain ⟨rfl, hc⟩ := hc
          obtain ⟨_, _, _, d, e, he, hs⟩ := commit1_good hc
          obtain ⟨q, rfl, hq, hqx, _⟩ := put_get hb hgc
          have hp' := put_pos h' x'
          rw [replayF, if_pos hlt, hgc] at hr
          simp only at hr
          rw [List.length_append] at e
          rw [if_pos ⟨trivial, e⟩, if_pos ((eqH_iff _ _).2 he)] at hr
          rw [hs]
          simp only [Int.toNat_natCast] at hr ⊢
          exact ih g q ⟨st.l ++ x', h', st.b ++ put h' x', st.s⟩ h' (n + 1) hr (by omega) hb hqx
        · exact hpre
      · exact hpre
/-- the texts only grow -/
theorem open_grows (t : List Hd) (xs : List Int) : ∀ (g a : Nat) (st : Sto) (n : Nat), st.l <+: (openF g t xs a st n).1.l ∧ n ≤ (openF g t xs a st n).2 := by
  intro g
  induction g with
  | zero => intro a st n; exact ⟨List.prefix_refl _, Nat.le_refl _⟩
  | succ g ih =>
    intro a st n
    rw [openF]
    split
    · split
      · rename_i hc
        obtain ⟨_, _, _, d, e, he, hs⟩ := commit1_good hc.2
        have h := ih (getC xs (a : Int)).2.2.1.toNat (commit1 st t (getC xs (a : Int)).1 (getC xs (a : Int)).2.1).1 (n + 1)
        refine ⟨List.IsPrefix.trans ?_ h.1, by omega⟩
        rw [hs]
        exact List.prefix_append _ _
      · exact ⟨List.prefix_refl _, Nat.le_refl _⟩
    · exact ⟨List.prefix_refl _, Nat.le_refl _⟩
/-- what is opened of a beginning is the beginning of what is opened of all -/
theorem open_front (t : List Hd) (xs : List Int) (k : Nat) (hb : Byt xs) : ∀ (g f a : Nat) (st : Sto) (n : Nat), a ≤ (xs.take k).length → xs.length - a ≤ f → (openF g t (xs.take k) a st n).1.l <+: (openF f t xs a st n).1.l := by
  intro g
  induction g with
  | zero => intro f a st n _ _; exact (open_grows t xs f a st n).1
  | succ g ih =>
    intro f a st n ha hf
    rw [openF]
    split
    · rename_i hlt
      split
      · rename_i hc
        obtain ⟨h', x', p, ok, hgc⟩ : ∃ h' x' p ok, getC (xs.take k) (a : Int) = (h', x', p, ok) := ⟨_, _, _, _, rfl⟩
        rw [hgc] at hc ⊢
        simp only at hc ⊢
        obtain ⟨rfl, hc⟩ := hc
        have hb2 : Byt (xs.take k) := fun y hy => hb y (List.mem_of_mem_take hy)
        obtain ⟨q, rfl, hq, hqx, _⟩ := put_get hb2 hgc
        have hp' := put_pos h' x'
        have hlt2 : a < xs.length := by rw [List.length_take] at hlt; omega
        have hgc2 := get_front hb hgc
        obtain ⟨f, rfl⟩ : ∃ j, f = j + 1 := ⟨f - 1, by omega⟩
        conv => rhs; rw [openF, if_pos hlt2, hgc2]
        simp only
        rw [if_pos ⟨trivial, hc⟩]
        simp only [Int.toNat_natCast]
        exact ih f q _ _ hqx (by omega)
      · exact (open_grows t xs f a st n).1
    · exact (open_grows t xs f a st n).1
/-- what is opened is good, and no longer than the bytes -/
theorem open_good (t : List Hd) (xs : List Int) (hb : Byt xs) : ∀ (g a : Nat) (st : Sto) (n : Nat), Good st → st.b.length ≤ a → a ≤ xs.length → Good (openF g t xs a st n).1 ∧ (openF g t xs a st n).1.b.length ≤ xs.length ∧ (openF g t xs a st n).1.s = st.s := by
  intro g
  induction g with
  | zero => intro a st n hg hl ha; exact ⟨hg, Nat.le_trans hl ha, rfl⟩
  | succ g ih =>
    intro a st n hg hl ha
    rw [openF]
    split
    · rename_i hlt
      split
      · rename_i hc
        obtain ⟨h', x', p, ok, hgc⟩ : ∃ h' x' p ok, getC xs (a : Int) = (h', x', p, ok) := ⟨_, _, _, _, rfl⟩
        rw [hgc] at hc ⊢
        simp only at hc ⊢
        obtain ⟨rfl, hc⟩ := hc
        obtain ⟨q, rfl, hq, hqx, _, _, _, hbl, _⟩ := put_get hb hgc
        obtain ⟨_, _, _, _, _, _, hs⟩ := commit1_good hc
        have h := ih q (commit1 st t h' x').1 (n + 1) (good_commit hg hc hbl) (by rw [hs]; simp only [List.length_append]; omega) hqx
        simp only [Int.toNat_natCast]
        refine ⟨h.1, h.2.1, ?_⟩
        rw [h.2.2, hs]
      · exact ⟨hg, by simp only; omega, rfl⟩
    · exact ⟨hg, by simp only; omega, rfl⟩
theorem openS_ok (t : List Hd) {xs : List Int} (hb : Byt xs) : storeOk (openS t xs).1 = true ∧ (openS t xs).1.s = ((openS t xs).1.b.length : Int) := by
  have hb2 : Byt (xs.take 60000) := fun y hy => hb y (List.mem_of_mem_take hy)
  obtain ⟨h1, h2, h3⟩ := open_good t (xs.take 60000) hb2 (xs.take 60000).length 0 new12 0 good_new (Nat.le_refl _) (Nat.zero_le _)
  refine ⟨?_, rfl⟩
  have h60 : (xs.take 60000).length ≤ 60000 := by rw [List.length_take]; omega
  exact good_ok (st := ⟨_, _, _, _⟩) ⟨h1.1, h1.2.1, h1.2.2⟩ (Nat.le_trans h2 h60) ⟨Int.natCast_nonneg _, Int.le_refl _⟩

/-- a store that was made by commits that the table signs: opened of its bytes it comes back -/
def Made (t : List Hd) (st : Sto) : Prop := Good st ∧ ∀ g, st.b.length ≤ g → (openF g t st.b 0 new12 0).1.l = st.l ∧ (openF g t st.b 0 new12 0).1.h = st.h ∧ (openF g t st.b 0 new12 0).1.b = st.b
theorem made_new (t : List Hd) : Made t new12 := by
  refine ⟨good_new, fun g _ => ?_⟩
  cases g with
  | zero => exact ⟨rfl, rfl, rfl⟩
  | succ g => exact ⟨rfl, rfl, rfl⟩
/-- opened with one more commit behind -/
theorem open_app {h : Hd} {x : List ByteArray} (t : List Hd) (xs : List Int) (hb : Byt xs) (S : Sto) (hk : okH h = true) (h1 : 1 ≤ x.length) (hlx : x.length ≤ 200) (hbl : (body h x).length ≤ 1000000000) (hS : S.b = xs) (hSl : ∀ T : Sto, T.l = S.l → T.h = S.h → (commit1 T t h x).2 = 0) :
    ∀ (f g a : Nat) (st : Sto) (n m : Nat), a ≤ xs.length → st.b = xs.take a → xs.length - a ≤ f → (xs ++ put h x).length - a ≤ g →
      (openF f t xs a st n).1.l = S.l → (openF f t xs a st n).1.h = S.h → (openF f t xs a st n).1.b = S.b → (openF g t (xs ++ put h x) a st m).1.l = S.l ++ x ∧ (openF g t (xs ++ put h x) a st m).1.h = h ∧ (openF g t (xs ++ put h x) a st m).1.b = S.b ++ put h x := by
  have hp := put_pos h x
  have last : ∀ (g : Nat) (st : Sto) (m : Nat), st.l = S.l → st.h = S.h → st.b = S.b → 1 ≤ g → (openF g t (xs ++ put h x) xs.length st m).1.l = S.l ++ x ∧ (openF g t (xs ++ put h x) xs.length st m).1.h = h ∧ (openF g t (xs ++ put h x) xs.length st m).1.b = S.b ++ put h x := by
    intro g st m e1 e2 e3 hg
    obtain ⟨g, rfl⟩ : ∃ k, g = k + 1 := ⟨g - 1, by omega⟩
    have gp := get_put xs [] hk h1 hlx hbl
    rw [List.append_nil] at gp
    have hc := hSl st e1 e2
    obtain ⟨_, _, _, _, _, _, hs⟩ := commit1_good hc
    rw [openF, if_pos (by rw [List.length_append]; omega), gp]
    simp only [Int.toNat_natCast]
    rw [if_pos ⟨trivial, hc⟩, hs]
    cases g with
    | zero => exact ⟨by rw [openF, e1], rfl, by rw [openF, e3]⟩
    | succ g =>
      rw [openF, if_neg (by rw [List.length_append]; omega)]
      exact ⟨by rw [e1], rfl, by rw [e3]⟩
  intro f
  induction f with
  | zero =>
    intro g a st n m ha hst hf hg e1 e2 e3
    have : a = xs.length := by omega
    subst this
    rw [openF] at e1 e2 e3
    exact last g st m e1 e2 e3 (by rw [List.length_append] at hg; omega)
  | succ f ih =>
    intro g a st n m ha hst hf hg e1 e2 e3
    by_cases hlt : a < xs.length
    · obtain ⟨h', x', p, ok, hgc⟩ : ∃ h' x' p ok, getC xs (a : Int) = (h', x', p, ok) := ⟨_, _, _, _, rfl⟩
      rw [openF, if_pos hlt, hgc] at e1 e2 e3
      simp only at e1 e2 e3
      by_cases hc : ok = true ∧ (commit1 st t h' x').2 = 0
      · rw [if_pos hc] at e1 e2 e3
        obtain ⟨rfl, hc⟩ := hc
        obtain ⟨q, rfl, hq, hqx, _, _, _, _, hd⟩ := put_get hb hgc
        have hp' := put_pos h' x'
        obtain ⟨_, _, _, _, _, _, hs⟩ := commit1_good hc
        obtain ⟨g, rfl⟩ : ∃ k, g = k + 1 := ⟨g - 1, by rw [List.length_append] at hg; omega⟩
        have hgm := get_more (r := put h x) hb hgc
        have hst2 : (commit1 st t h' x').1.b = xs.take q := by
          rw [hs]
          simp only
          rw [hst, hq]
          have e5 : xs.take (a + (put h' x').length) = xs.take a ++ (xs.drop a).take (put h' x').length := List.take_add ..
          rw [e5, hd, List.take_append_of_le_length (Nat.le_refl _), List.take_of_length_le (Nat.le_refl _)]
        have r := ih g q (commit1 st t h' x').1 (n + 1) (m + 1) hqx hst2 (by omega) (by omega) e1 e2 e3
        rw [openF, if_pos (by rw [List.length_append]; omega), hgm]
        simp only
        rw [if_pos ⟨trivial, hc⟩]
        exact r
      · rw [if_neg hc] at e3
        simp only at e3
        rw [hst, hS] at e3
        have := congrArg List.length e3
        rw [List.length_take] at this
        omega
    · have : a = xs.length := by omega
      subst this
      rw [openF, if_neg hlt] at e1 e2 e3
      exact last g st m e1 e2 e3 (by rw [List.length_append] at hg; omega)
theorem made_commit {t : List Hd} {st : Sto} {h : Hd} {x : List ByteArray} (hm : Made t st) (hc : (commit1 st t h x).2 = 0) (hbl : (body h x).length ≤ 1000000000) : Made t (commit1 st t h x).1 := by
  obtain ⟨a, b, c, d, e, f, g⟩ := commit1_good hc
  refine ⟨good_commit hm.1 hc hbl, fun k hk => ?_⟩
  rw [g] at hk ⊢
  simp only at hk ⊢
  have hlx : x.length ≤ 200 := by rw [List.length_append] at e; omega
  obtain ⟨e1, e2, e3⟩ := hm.2 st.b.length (Nat.le_refl _)
  have hSl : ∀ T : Sto, T.l = st.l → T.h = st.h → (commit1 T t h x).2 = 0 := by
    intro T e4 e5
    rw [f, ← e4]
    rw [commit1_of (by rw [e4, e5]; exact a) d (by rw [e4]; exact e) (by rw [e4, ← f]; exact c)]
  exact open_app t st.b hm.1.2.2 st b d hlx hbl rfl hSl st.b.length k 0 new12 0 0 (Nat.zero_le _) rfl (by omega) (by omega) e1 e2 e3
theorem made_sure {t : List Hd} {st : Sto} (hm : Made t st) (s : Int) : Made t ⟨st.l, st.h, st.b, s⟩ := ⟨⟨hm.1.1, hm.1.2.1, hm.1.2.2⟩, hm.2⟩

end Go.Proofs.YtfpaichdkddglaaDoor.Sr

/- Contracts of GetText, the program's and the specification's: both answer 'getText' of the bytes, and turn nothing. -/
namespace Go.Proofs.YtfpaichdkddglaaDoor.GetT
open Go.RowKit Go.Proofs.YtfpaichdkddglaaDoor.Mem Go.Proofs.YtfpaichdkddglaaDoor.Plain
set_option linter.unusedVariables false

theorem conv_none (ao : Option Addr) (c : Nat) (w : World) : (convert 22 9 (.slice ao 0 c)).run Tryd.prog w = .ok (.string ⟨#[]⟩) w := by
  cases ao with
  | none => rw [run_convert_bytes_string w 22 9 5 none 0 c Tryd.underlying22 Tryd.underlying5 Tryd.underlying9]; rfl
  | some a => exact run_convert_bytes_back w 22 9 5 a c [] Tryd.underlying22 Tryd.underlying5 Tryd.underlying9 (fun j hj => by simp at hj)

theorem conv_some {w : World} {xs : List Int} {b off p n c : Nat} (hb : Byt xs) (hcell : ∀ j, j < xs.length → w.cell? ⟨b, off + j, none⟩ = (bs xs)[j]?) (hn : p + n ≤ xs.length) :
    (convert 22 9 (.slice (some ⟨b, off + p, none⟩) n c)).run Tryd.prog w = .ok (.string (txt ((xs.drop p).take n))) w := by
  have hl : (u8s ((xs.drop p).take n)).length = n := by rw [u8s_len]; simp; omega
  have h := run_convert_bytes_back (P := Tryd.prog) w 22 9 5 ⟨b, off + p, none⟩ c (u8s ((xs.drop p).take n)) Tryd.underlying22 Tryd.underlying5 Tryd.underlying9 (fun j hj => by
    rw [hl] at hj
    rw [Addr.add_lit, Nat.add_assoc, hcell (p + j) (by omega), bs_get]
    have hx : xs[p + j]? = some (xs[p + j]'(by omega)) := by simp
    have hy := hb.at hx
    rw [hx]
    simp only [u8s, List.getElem_map, List.getElem_take, List.getElem_drop, Option.map_some]
    rw [u8_back hy])
  rw [hl] at h
  exact h

theorem rets {s s' : ByteArray} {b b' : Int} {c c' : Bool} (h1 : s = s') (h2 : b = b') (h3 : c = c') : Ending.returned (.tuple #[.string s, .int .i64 b, .bool c]) = .returned (.tuple #[.string s', .int .i64 b', .bool c']) := by rw [h1, h2, h3]

set_option maxRecDepth 1000000 in
set_option maxHeartbeats 1000000 in
theorem text_impl (w : World) (v : Value) (xs : List Int) (at_ : Int) (h : Sl w v (bs xs)) (hb : Byt xs) (hx : xs.length ≤ 140737488355328) (hlo : -9223372036854775808 ≤ at_) (hhi : at_ ≤ 9223372036854775807) :
    Calls Tryd.prog 58 #[v, .int .i64 at_] w fun e w' => e = .returned (.tuple #[.string (getText xs at_).1, .int .i64 (getText xs at_).2.1, .bool (getText xs at_).2.2]) ∧ w' = w := by
  have hget := Gets.get_impl w v xs at_ h hb hx hlo hhi
  obtain ⟨n, p, ok, hr⟩ : ∃ n p ok, getNum xs at_ = (n, p, ok) := ⟨_, _, _, rfl⟩
  rw [hr] at hget
  have HR : Hid (getNum xs at_ = (n, p, ok)) := hr
  clear hr
  obtain ⟨ao, cap, rfl, hc1, hnone, hr1⟩ := h
  rw [bs_len] at hr1 hc1 hget
  rw [bs_len]
  cases ok with
  | false =>
    have HG : Hid (getText xs at_ = (⟨#[]⟩, 0, false)) := getText_no HR.out (.inl rfl)
    go_enter Tryd.func58, Tryd.ntmps58
    go_wp2_with (go_at_call 56; refine hget.mono ?_; rintro e w' ⟨rfl, rfl⟩)
    go_ret3
    exact ⟨by rw [HG.out]; rfl, rfl⟩
  | true =>
    have hbd := getNum_bd HR.out
    obtain ⟨n, rfl⟩ := Int.eq_ofNat_of_zero_le hbd.1
    obtain ⟨p, rfl⟩ := Int.eq_ofNat_of_zero_le (show 0 ≤ p by omega)
    by_cases hbig : (xs.length : Int) - (p : Int) < (n : Int)
    · have HG : Hid (getText xs at_ = (⟨#[]⟩, 0, false)) := getText_no HR.out (.inr hbig)
      go_enter Tryd.func58, Tryd.ntmps58
      go_wp2_with (go_at_call 56; refine hget.mono ?_; rintro e w' ⟨rfl, rfl⟩)
      go_ret3
      exact ⟨by rw [HG.out]; rfl, rfl⟩
    · have HG : Hid (getText xs at_ = (txt ((xs.drop p).take n), (p : Int) + (n : Int), true)) := getText_yes HR.out (by omega)
      obtain ⟨b, off, rfl, hcell⟩ := hr1 (by omega)
      by_cases h0 : n = 0
      · subst h0
        have hconv : ∀ ao c w, (convert 22 9 (.slice ao 0 c)).run Tryd.prog w = .ok (.string ⟨#[]⟩) w := conv_none
        have HT : Hid (txt ((xs.drop p).take 0) = ⟨#[]⟩) := rfl
        clear hr1 hcell
        go_enter Tryd.func58, Tryd.ntmps58
        go_wp2_with (go_at_call 56; refine hget.mono ?_; rintro e w' ⟨rfl, rfl⟩)
        all_goals go_ret3
        all_goals exact ⟨by rw [HG.out]; exact rets rfl (by dsimp only; omega) rfl, rfl⟩
      · have hconv := conv_some (c := cap - p) hb hcell (show p + n ≤ xs.length by omega)
        clear hr1 hcell
        go_enter Tryd.func58, Tryd.ntmps58
        go_wp2_with (go_at_call 56; refine hget.mono ?_; rintro e w' ⟨rfl, rfl⟩)
        all_goals go_ret3
        all_goals exact ⟨by rw [HG.out]; exact rets rfl (by dsimp only) rfl, rfl⟩

set_option maxRecDepth 1000000 in
set_option maxHeartbeats 1000000 in
theorem text_spec (w : World) (v : Value) (xs : List Int) (at_ : Int) (h : Sl w v (bs xs)) (hb : Byt xs) (hx : xs.length ≤ 140737488355328) (hlo : -9223372036854775808 ≤ at_) (hhi : at_ ≤ 9223372036854775807) :
    Calls Tryd.prog 45 #[v, .int .i64 at_] w fun e w' => e = .returned (.tuple #[.string (getText xs at_).1, .int .i64 (getText xs at_).2.1, .bool (getText xs at_).2.2]) ∧ w' = w := by
  have hget := Gets.get_spec w v xs at_ h hb hx hlo hhi
  obtain ⟨n, p, ok, hr⟩ : ∃ n p ok, getNum xs at_ = (n, p, ok) := ⟨_, _, _, rfl⟩
  rw [hr] at hget
  have HR : Hid (getNum xs at_ = (n, p, ok)) := hr
  clear hr
  obtain ⟨ao, cap, rfl, hc1, hnone, hr1⟩ := h
  rw [bs_len] at hr1 hc1 hget
  rw [bs_len]
  cases ok with
  | false =>
    have HG : Hid (getText xs at_ = (⟨#[]⟩, 0, false)) := getText_no HR.out (.inl rfl)
    go_enter Tryd.func45, Tryd.ntmps45
    go_wp2_with (go_at_call 44; refine hget.mono ?_; rintro e w' ⟨rfl, rfl⟩)
    go_ret3
    exact ⟨by rw [HG.out]; rfl, rfl⟩
  | true =>
    have hbd := getNum_bd HR.out
    obtain ⟨n, rfl⟩ := Int.eq_ofNat_of_zero_le hbd.1
    obtain ⟨p, rfl⟩ := Int.eq_ofNat_of_zero_le (show 0 ≤ p by omega)
    by_cases hbig : (xs.length : Int) - (p : Int) < (n : Int)
    · have HG : Hid (getText xs at_ = (⟨#[]⟩, 0, false)) := getText_no HR.out (.inr hbig)
      go_enter Tryd.func45, Tryd.ntmps45
      go_wp2_with (go_at_call 44; refine hget.mono ?_; rintro e w' ⟨rfl, rfl⟩)
      go_ret3
      exact ⟨by rw [HG.out]; rfl, rfl⟩
    · have HG : Hid (getText xs at_ = (txt ((xs.drop p).take n), (p : Int) + (n : Int), true)) := getText_yes HR.out (by omega)
      obtain ⟨b, off, rfl, hcell⟩ := hr1 (by omega)
      by_cases h0 : n = 0
      · subst h0
        have hconv : ∀ ao c w, (convert 22 9 (.slice ao 0 c)).run Tryd.prog w = .ok (.string ⟨#[]⟩) w := conv_none
        have HT : Hid (txt ((xs.drop p).take 0) = ⟨#[]⟩) := rfl
        clear hr1 hcell
        go_enter Tryd.func45, Tryd.ntmps45
        go_wp2_with (go_at_call 44; refine hget.mono ?_; rintro e w' ⟨rfl, rfl⟩)
        all_goals go_ret3
        all_goals exact ⟨by rw [HG.out]; exact rets rfl (by dsimp only; omega) rfl, rfl⟩
      · have hconv := conv_some (c := cap - p) hb hcell (show p + n ≤ xs.length by omega)
        clear hr1 hcell
        go_enter Tryd.func45, Tryd.ntmps45
        go_wp2_with (go_at_call 44; refine hget.mono ?_; rintro e w' ⟨rfl, rfl⟩)
        all_goals go_ret3
        all_goals exact ⟨by rw [HG.out]; exact rets rfl (by dsimp only) rfl, rfl⟩

end Go.Proofs.YtfpaichdkddglaaDoor.GetT

/- Contracts of GetTexts, the program's and the specification's: both answer 'getTexts' of the bytes; the list lies in new memory; nothing old is turned. -/
namespace Go.Proofs.YtfpaichdkddglaaDoor.GetTs
open Go.RowKit Go.Proofs.YtfpaichdkddglaaDoor.Mem Go.Proofs.YtfpaichdkddglaaDoor.Plain Go.Proofs.YtfpaichdkddglaaDoor.Laws
set_option linter.unusedVariables false

theorem one_str (s : ByteArray) : ∀ u ∈ [Value.string s], u.oneCell' = true := by
  intro u hu
  rw [List.mem_singleton] at hu
  rw [hu]
  rfl

theorem Own.emptyS (w : World) (lo : Nat) (h : lo ≤ w.heap.size) : Own (w.alloc (.cells #[] 9)) lo (w.alloc (.cells #[] 9)).heap.size 9 (.slice (some ⟨w.heap.size, 0, none⟩) 0 0) (ss []) :=
  Own.of (World.ownsRow_lit w #[] 0 h (Nat.zero_le _) rfl)
theorem Own.nilS (w : World) (lo hi : Nat) : Own w lo hi 9 (.slice none 0 0) (ss []) :=
  ⟨World.ownsRow_nil w lo 9 1, fun g hg => by simp [Value.ownBlock] at hg⟩

/-- What GetTexts answers, and what of the world it leaves. -/
def Done (xs : List Int) (at_ : Int) (w : World) (e : Ending) (w' : World) : Prop :=
  ∃ v' : Value, e = .returned (.tuple #[v', .int .i64 (getTexts xs at_).2.1, .bool (getTexts xs at_).2.2]) ∧ Own w' w.heap.size w'.heap.size 9 v' (ss (getTexts xs at_).1) ∧ Below w.heap.size w w'

theorem done_no {xs : List Int} {at_ : Int} {w w' : World} {v' : Value} (hg : getTexts xs at_ = ([], 0, false)) (ho : Own w' w.heap.size w'.heap.size 9 v' (ss [])) (hb : Below w.heap.size w w') :
    Done xs at_ w (.returned (.tuple #[v', .int .i64 0, .bool false])) w' := by
  unfold Done
  rw [hg]
  exact ⟨v', rfl, ho, hb⟩
theorem done_yes {xs : List Int} {at_ q : Int} {l : List ByteArray} {w w' : World} {v' : Value} (hg : getTexts xs at_ = (l, q, true)) (ho : Own w' w.heap.size w'.heap.size 9 v' (ss l)) (hb : Below w.heap.size w w') :
    Done xs at_ w (.returned (.tuple #[v', .int .i64 q, .bool true])) w' := by
  unfold Done
  rw [hg]
  exact ⟨v', rfl, ho, hb⟩

set_option maxRecDepth 1000000 in
set_option maxHeartbeats 2000000 in
theorem texts_impl (w : World) (v : Value) (xs : List Int) (at_ : Int) (h : Sl w v (bs xs)) (hb : Byt xs) (hx : xs.length ≤ 140737488355328) (hlo : -9223372036854775808 ≤ at_) (hhi : at_ ≤ 9223372036854775807) :
    Calls Tryd.prog 59 #[v, .int .i64 at_] w fun e w' => Done xs at_ w e w' := by
  obtain ⟨i0, hi, hz0, hz1, hz2⟩ := info_parts Strs.info9
  have hget := Gets.get_impl w v xs at_ h hb hx hlo hhi
  obtain ⟨n, p, ok, hr⟩ : ∃ n p ok, getNum xs at_ = (n, p, ok) := ⟨_, _, _, rfl⟩
  rw [hr] at hget
  have HR : Hid (getNum xs at_ = (n, p, ok)) := hr
  clear hr
  cases ok with
  | false =>
    have HG : Hid (getTexts xs at_ = ([], 0, false)) := getTexts_no HR.out (.inl rfl)
    go_enter Tryd.func59, Tryd.ntmps59
    go_wp2_with (go_at_call 56; refine hget.mono ?_; rintro e w' ⟨rfl, rfl⟩)
    go_ret3
    exact done_no HG.out (Own.nilS _ _ _) (Below.refl _ _)
  | true =>
    have hbd := getNum_bd HR.out
    obtain ⟨n, rfl⟩ := Int.eq_ofNat_of_zero_le hbd.1
    by_cases hbig : (200 : Int) < (n : Int)
    · have HG : Hid (getTexts xs at_ = ([], 0, false)) := getTexts_no HR.out (.inr hbig)
      go_enter Tryd.func59, Tryd.ntmps59
      go_wp2_with (go_at_call 56; refine hget.mono ?_; rintro e w' ⟨rfl, rfl⟩)
      go_ret3
      exact done_no HG.out (Own.nilS _ _ _) (Below.refl _ _)
    · have hn2 : n ≤ 200 := by omega
      have hlater : ∀ w', Below w.heap.size w w' → Sl w' v (bs xs) := fun w' hb => h.later hb
      go_enter Tryd.func59, Tryd.ntmps59
      go_wp2_with (first | (go_at_call 56; refine hget.mono ?_; rintro e wy ⟨rfl, hwy⟩; have hwy := hwy.symm; subst hwy) | (at_make; refine wpList_make_own _ rfl _ _ 26 rfl w.heap.size 9 i0 (.string ⟨#[]⟩) 1 Tryd.underlying26 hi hz0 hz1 _ _ _ n rfl rfl rfl (by rw [hz2]; omega) (by unfold maxLen; omega) (Nat.le_refl _) ?_))
      intro w1 hown hgrow
      have hbel : Below w.heap.size w w1 := (Below.refl _ _).grown hgrow (Nat.le_refl _) (by simp)
      have hown1 : Own w1 w.heap.size w1.heap.size 9 (.slice (some ⟨w.heap.size, 0, none⟩) 0 n) (ss []) := Own.of hown
      clear hget hgrow hown
      go_wp2
      go_loopw [8, 10, 30] (fun nx lv i wr => ∃ (k : Nat) (acc : List ByteArray) (q : Int), k ≤ n ∧ i = .int .i64 k ∧ nx = .int .i64 q ∧ 0 ≤ q ∧ q ≤ xs.length ∧ acc.length = k ∧ rd xs n p = (rd xs (n - k) q).map (fun r => (acc ++ r.1, r.2)) ∧ Own wr w.heap.size wr.heap.size 9 lv (ss acc) ∧ Below w.heap.size w wr) (fun _ _ i _ => n - (intOf i).toNat)
      case atStart => exact ⟨0, [], p, Nat.zero_le _, rfl, rfl, by omega, by omega, rfl, by simp, hown1, hbel⟩
      case round =>
        obtain ⟨k, acc, q, hk, rfl, rfl, hq0, hq1, hacc, hD0, ho, hbr⟩ := hrel
        have HD : Hid (acc.length = k ∧ rd xs n p = (rd xs (n - k) q).map (fun r => (acc ++ r.1, r.2))) := ⟨hacc, hD0⟩
        have hsz := hbr.size
        clear hD0 hacc hown1 hbel
        by_cases hlt : k < n
        · have htxt := GetT.text_impl wr v xs q (hlater wr hbr) hb hx (by omega) (by omega)
          obtain ⟨s, q2, ok2, hr2⟩ : ∃ s q2 ok2, getText xs q = (s, q2, ok2) := ⟨_, _, _, rfl⟩
          rw [hr2] at htxt
          have HT : Hid (getText xs q = (s, q2, ok2)) := hr2
          clear hr2
          obtain ⟨m, hm⟩ : ∃ m, n - k = m + 1 := ⟨n - k - 1, by omega⟩
          cases ok2 with
          | false =>
            have HG : Hid (getTexts xs at_ = ([], 0, false)) := getTexts_none HR.out hn2 (by rw [HD.out.2, hm, rd_no HT.out]; rfl)
            clear HD hm
            go_wp2_with (go_at_call 58; refine htxt.mono ?_; rintro e wy ⟨rfl, hwy⟩; have hwy := hwy.symm; subst hwy)
            go_ret3
            exact done_no HG.out (Own.nilS _ _ _) hbr
          | true =>
            have hbt := getText_bd HT.out
            have HN : Hid ((acc ++ [s]).length = k + 1 ∧ rd xs n p = (rd xs (n - (k + 1)) q2).map (fun r => ((acc ++ [s]) ++ r.1, r.2))) := by
              refine ⟨by rw [List.length_append, HD.out.1]; rfl, ?_⟩
              rw [HD.out.2, hm, rd_yes HT.out, show n - (k + 1) = m by omega, Option.map_map]
              simp [Function.comp_def]
            have c2 : (ss acc).length + 1 ≤ maxLen := by rw [ss_len, HD.out.1]; unfold maxLen; omega
            have c3 : ((ss acc).length + 1) * 16 ≤ 140737488355328 := by rw [ss_len, HD.out.1]; omega
            have c4 : ∀ o, w.heap.size ≤ (wr.alloc o).heap.size := fun o => by simp; omega
            clear HD hm
            go_wp2_with (first | (go_at_call 58; refine htxt.mono ?_; rintro e wy ⟨rfl, hwy⟩; have hwy := hwy.symm; subst hwy) | (at_builtin; go_must (refine wpl_app _ rfl (.tmp 41) (.tmp 43) 26 rfl 9 i0 (.string ⟨#[]⟩) 16 Tryd.underlying26 hi hz0 hz1 hz2 rfl w.heap.size _ (ss acc) rfl (ho.alloc _) _ rfl [.string s] (Sl.one _ _ _) (one_str _) c2 c3 (c4 _) ?_); intro v3 w3 ho3 hb3 hg3))
            have hb4 : Below w.heap.size w w3 := (hbr.alloc hsz _).trans hb3
            have ho4 : Own w3 w.heap.size w3.heap.size 9 v3 (ss (acc ++ [s])) := by rw [ss_app]; exact ho3
            go_roundw
            case rel => exact ⟨k + 1, acc ++ [s], q2, by omega, by go_num, rfl, by omega, by omega, HN.out.1, HN.out.2, ho4, hb4⟩
            case measure => simp [intOf]; omega
        · have hkn : k = n := by omega
          have HG : Hid (getTexts xs at_ = (acc, q, true)) := getTexts_some HR.out hn2 (by rw [HD.out.2, hkn, Nat.sub_self]; simp [rd])
          clear HD
          go_wp2
          go_ret3
          exact done_yes HG.out ho hbr

set_option maxRecDepth 1000000 in
set_option maxHeartbeats 2000000 in
theorem texts_spec (w : World) (v : Value) (xs : List Int) (at_ : Int) (h : Sl w v (bs xs)) (hb : Byt xs) (hx : xs.length ≤ 140737488355328) (hlo : -9223372036854775808 ≤ at_) (hhi : at_ ≤ 9223372036854775807) :
    Calls Tryd.prog 46 #[v, .int .i64 at_] w fun e w' => Done xs at_ w e w' := by
  obtain ⟨i0, hi, hz0, hz1, hz2⟩ := info_parts Strs.info9
  have hget := Gets.get_spec w v xs at_ h hb hx hlo hhi
  obtain ⟨n, p, ok, hr⟩ : ∃ n p ok, getNum xs at_ = (n, p, ok) := ⟨_, _, _, rfl⟩
  rw [hr] at hget
  have HR : Hid (getNum xs at_ = (n, p, ok)) := hr
  clear hr
  cases ok with
  | false =>
    have HG : Hid (getTexts xs at_ = ([], 0, false)) := getTexts_no HR.out (.inl rfl)
    go_enter Tryd.func46, Tryd.ntmps46
    go_wp2_with (go_at_call 44; refine hget.mono ?_; rintro e w' ⟨rfl, rfl⟩)
    go_ret3
    exact done_no HG.out (Own.emptyS _ _ (Nat.le_refl _)) ((Below.refl _ _).alloc (Nat.le_refl _) _)
  | true =>
    have hbd := getNum_bd HR.out
    obtain ⟨n, rfl⟩ := Int.eq_ofNat_of_zero_le hbd.1
    by_cases hbig : (200 : Int) < (n : Int)
    · have HG : Hid (getTexts xs at_ = ([], 0, false)) := getTexts_no HR.out (.inr hbig)
      go_enter Tryd.func46, Tryd.ntmps46
      go_wp2_with (go_at_call 44; refine hget.mono ?_; rintro e w' ⟨rfl, rfl⟩)
      go_ret3
      exact done_no HG.out (Own.emptyS _ _ (Nat.le_refl _)) ((Below.refl _ _).alloc (Nat.le_refl _) _)
    · have hn2 : n ≤ 200 := by omega
      have hlater : ∀ w', Below w.heap.size w w' → Sl w' v (bs xs) := fun w' hb => h.later hb
      go_enter Tryd.func46, Tryd.ntmps46
      go_wp2_with (go_at_call 44; refine hget.mono ?_; rintro e wy ⟨rfl, hwy⟩; have hwy := hwy.symm; subst hwy)
      have hbel : Below w.heap.size w (w.alloc (.cells #[] 9)) := (Below.refl _ _).alloc (Nat.le_refl _) _
      have hown1 := Own.emptyS w w.heap.size (Nat.le_refl _)
      clear hget
      go_loopw [8, 10, 11] (fun nx lv i wr => ∃ (k : Nat) (acc : List ByteArray) (q : Int), k ≤ n ∧ i = .int .i64 k ∧ nx = .int .i64 q ∧ 0 ≤ q ∧ q ≤ xs.length ∧ acc.length = k ∧ rd xs n p = (rd xs (n - k) q).map (fun r => (acc ++ r.1, r.2)) ∧ Own wr w.heap.size wr.heap.size 9 lv (ss acc) ∧ Below w.heap.size w wr) (fun _ _ i _ => n - (intOf i).toNat)
      case atStart => exact ⟨0, [], p, Nat.zero_le _, rfl, rfl, by omega, by omega, rfl, by simp, hown1, hbel⟩
      case round =>
        obtain ⟨k, acc, q, hk, rfl, rfl, hq0, hq1, hacc, hD0, ho, hbr⟩ := hrel
        have HD : Hid (acc.length = k ∧ rd xs n p = (rd xs (n - k) q).map (fun r => (acc ++ r.1, r.2))) := ⟨hacc, hD0⟩
        have hsz := hbr.size
        clear hD0 hacc hown1 hbel
        by_cases hlt : k < n
        · have htxt := GetT.text_spec wr v xs q (hlater wr hbr) hb hx (by omega) (by omega)
          obtain ⟨s, q2, ok2, hr2⟩ : ∃ s q2 ok2, getText xs q = (s, q2, ok2) := ⟨_, _, _, rfl⟩
          rw [hr2] at htxt
          have HT : Hid (getText xs q = (s, q2, ok2)) := hr2
          clear hr2
          obtain ⟨m, hm⟩ : ∃ m, n - k = m + 1 := ⟨n - k - 1, by omega⟩
          cases ok2 with
          | false =>
            have HG : Hid (getTexts xs at_ = ([], 0, false)) := getTexts_none HR.out hn2 (by rw [HD.out.2, hm, rd_no HT.out]; rfl)
            clear HD hm
            go_wp2_with (go_at_call 45; refine htxt.mono ?_; rintro e wy ⟨rfl, hwy⟩; have hwy := hwy.symm; subst hwy)
            go_ret3
            exact done_no HG.out (Own.emptyS _ _ hsz) (hbr.alloc hsz _)
          | true =>
            have hbt := getText_bd HT.out
            have HN : Hid ((acc ++ [s]).length = k + 1 ∧ rd xs n p = (rd xs (n - (k + 1)) q2).map (fun r => ((acc ++ [s]) ++ r.1, r.2))) := by
              refine ⟨by rw [List.length_append, HD.out.1]; rfl, ?_⟩
              rw [HD.out.2, hm, rd_yes HT.out, show n - (k + 1) = m by omega, Option.map_map]
              simp [Function.comp_def]
            have c2 : (ss acc).length + 1 ≤ maxLen := by rw [ss_len, HD.out.1]; unfold maxLen; omega
            have c3 : ((ss acc).length + 1) * 16 ≤ 140737488355328 := by rw [ss_len, HD.out.1]; omega
            have c4 : ∀ o, w.heap.size ≤ (wr.alloc o).heap.size := fun o => by simp; omega
            clear HD hm
            go_wp2_with (first | (go_at_call 45; refine htxt.mono ?_; rintro e wy ⟨rfl, hwy⟩; have hwy := hwy.symm; subst hwy) | (at_builtin; go_must (refine wpl_app _ rfl (.tmp 45) (.tmp 47) 26 rfl 9 i0 (.string ⟨#[]⟩) 16 Tryd.underlying26 hi hz0 hz1 hz2 rfl w.heap.size _ (ss acc) rfl (ho.alloc _) _ rfl [.string s] (Sl.one _ _ _) (one_str _) c2 c3 (c4 _) ?_); intro v3 w3 ho3 hb3 hg3))
            have hb4 : Below w.heap.size w w3 := (hbr.alloc hsz _).trans hb3
            have ho4 : Own w3 w.heap.size w3.heap.size 9 v3 (ss (acc ++ [s])) := by rw [ss_app]; exact ho3
            go_roundw
            case rel => exact ⟨k + 1, acc ++ [s], q2, by omega, by go_num, rfl, by omega, by omega, HN.out.1, HN.out.2, ho4, hb4⟩
            case measure => simp [intOf]; omega
        · have hkn : k = n := by omega
          have HG : Hid (getTexts xs at_ = (acc, q, true)) := getTexts_some HR.out hn2 (by rw [HD.out.2, hkn, Nat.sub_self]; simp [rd])
          clear HD
          go_wp2
          go_ret3
          exact done_yes HG.out ho hbr

end Go.Proofs.YtfpaichdkddglaaDoor.GetTs
