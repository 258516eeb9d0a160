/- Chapter 13: words, as bytes and back; plain facts alone. -/
import Derived.Test.YteemblfjghnooaaCan
import Derived.Test.YteemblfjghnooaaHeO
namespace Go.Proofs.Yteemblfjghnooaa.Mg
open Go.RowKit Go.Proofs.Yteemblfjghnooaa.Mem Go.Proofs.Yteemblfjghnooaa.Laws Go.Proofs.Yteemblfjghnooaa.Sha Go.Proofs.Yteemblfjghnooaa.Tr Go.Proofs.Yteemblfjghnooaa.He
set_option linter.unusedVariables false
set_option linter.unusedSimpArgs false

/-- a word: its kind, from, to, head, place, texts -/
structure Ms where
  k : Int
  f : Int
  t : Int
  h : Hd
  n : Int
  x : List ByteArray
/-- the zero word -/
def ms0 : Ms := ⟨0, 0, 0, hd0, 0, []⟩
/-- what all kinds ask, and what each kind asks besides -/
def face (m : Ms) : Bool := decide (0 ≤ m.f ∧ m.f ≤ 20) && decide (0 ≤ m.t ∧ m.t ≤ 20) && !decide (m.f = m.t) && okH m.h && decide (0 ≤ m.n ∧ m.n ≤ 200)
def kindOk (m : Ms) : Bool :=
  if m.k = 1 then decide (m.n = 0) && decide (m.x.length = 0)
  else if m.k = 2 then decide (m.n < m.h.n) && decide (m.x.length = 0)
  else if m.k = 3 then decide (m.n < m.h.n) && decide ((m.x.length : Int) = m.h.n - m.n) else false
def msgOk (m : Ms) : Bool := face m && kindOk m
theorem msg_parts {m : Ms} (h : msgOk m = true) : (0 ≤ m.f ∧ m.f ≤ 20) ∧ (0 ≤ m.t ∧ m.t ≤ 20) ∧ ¬ m.f = m.t ∧ okH m.h = true ∧ (0 ≤ m.n ∧ m.n ≤ 200) ∧ kindOk m = true := by
  unfold msgOk face at h
  simp only [Bool.and_eq_true, decide_eq_true_eq, Bool.not_eq_true', decide_eq_false_iff_not] at h
  obtain ⟨⟨⟨⟨⟨a, b⟩, c⟩, d⟩, e⟩, f⟩ := h
  exact ⟨a, b, c, d, e, f⟩
theorem kind_parts {m : Ms} (h : kindOk m = true) : (m.k = 1 ∨ m.k = 2 ∨ m.k = 3) ∧ ((m.x.length : Int) = 0 ∨ (m.x.length : Int) = m.h.n - m.n) := by
  unfold kindOk at h
  split at h
  · simp only [Bool.and_eq_true, decide_eq_true_eq] at h
    exact ⟨Or.inl (by assumption), Or.inl (by omega)⟩
  · split at h
    · simp only [Bool.and_eq_true, decide_eq_true_eq] at h
      exact ⟨Or.inr (Or.inl (by assumption)), Or.inl (by omega)⟩
    · split at h
      · simp only [Bool.and_eq_true, decide_eq_true_eq] at h
        exact ⟨Or.inr (Or.inr (by assumption)), Or.inr h.2⟩
      · cases h
theorem okH_parts13 {h : Hd} (hk : okH h = true) : 0 ≤ h.n ∧ h.n ≤ 200 ∧ h.r.size = 32 := by
  unfold okH at hk
  simp only [decide_eq_true_eq] at hk
  exact ⟨hk.1.1, hk.1.2, hk.2⟩
theorem msg_len {m : Ms} (h : msgOk m = true) : m.x.length ≤ 200 := by
  obtain ⟨_, _, _, d, e, f⟩ := msg_parts h
  have := (okH_parts13 d).2.1
  have := (kind_parts f).2
  omega

/-- a word's bytes -/
def bytesM (m : Ms) : List Int := Puts.num m.k ++ (Puts.num m.f ++ (Puts.num m.t ++ (Puts.num m.h.n ++ (Puts.tx m.h.r ++ (Puts.num m.n ++ (Puts.num (m.x.length : Int) ++ Puts.txs m.x))))))
def putM (m : Ms) : List Int := if msgOk m = true then bytesM m else []
theorem txs_byt13 : ∀ l : List ByteArray, Byt (Puts.txs l) := by
  intro l
  induction l with
  | nil => intro x hx; cases hx
  | cons s r ih => exact (Puts.tx_byt s).app ih
theorem bytes_byt (m : Ms) : Byt (bytesM m) := (Puts.num_byt _).app ((Puts.num_byt _).app ((Puts.num_byt _).app ((Puts.num_byt _).app ((Puts.tx_byt _).app ((Puts.num_byt _).app ((Puts.num_byt _).app (txs_byt13 _)))))))
theorem putM_byt (m : Ms) : Byt (putM m) := by
  unfold putM
  split
  · exact bytes_byt m
  · intro y hy; cases hy
theorem bytes_len (m : Ms) : (bytesM m).length ≤ m.h.r.size + 35 + 5 * m.x.length + Puts.tot m.x := by
  have h1 := Puts.tx_len m.h.r
  have h2 := Puts.txs_len m.x
  have h3 := (Puts.num_len m.k).2
  have h4 := (Puts.num_len m.f).2
  have h5 := (Puts.num_len m.t).2
  have h6 := (Puts.num_len m.h.n).2
  have h7 := (Puts.num_len m.n).2
  have h8 := (Puts.num_len (m.x.length : Int)).2
  unfold bytesM
  simp only [List.length_append]
  omega
theorem bytes_pos (m : Ms) : 1 ≤ (bytesM m).length := by
  have h3 := (Puts.num_len m.k).1
  unfold bytesM
  simp only [List.length_append]
  omega

/-- what stands at the places of a word, and whether all of it stands there, to the end -/
def place (xs : List Int) : Ms × Bool :=
  (⟨(Plain.getNum xs 0).1, (Plain.getNum xs (Plain.getNum xs 0).2.1).1, (Plain.getNum xs (Plain.getNum xs (Plain.getNum xs 0).2.1).2.1).1,
    ⟨(Plain.getNum xs (Plain.getNum xs (Plain.getNum xs (Plain.getNum xs 0).2.1).2.1).2.1).1, (Plain.getText xs (Plain.getNum xs (Plain.getNum xs (Plain.getNum xs (Plain.getNum xs 0).2.1).2.1).2.1).2.1).1⟩,
    (Plain.getNum xs (Plain.getText xs (Plain.getNum xs (Plain.getNum xs (Plain.getNum xs (Plain.getNum xs 0).2.1).2.1).2.1).2.1).2.1).1,
    (Plain.getTexts xs (Plain.getNum xs (Plain.getText xs (Plain.getNum xs (Plain.getNum xs (Plain.getNum xs (Plain.getNum xs 0).2.1).2.1).2.1).2.1).2.1).2.1).1⟩,
   (Plain.getNum xs 0).2.2 && (Plain.getNum xs (Plain.getNum xs 0).2.1).2.2 && (Plain.getNum xs (Plain.getNum xs (Plain.getNum xs 0).2.1).2.1).2.2 &&
    (Plain.getNum xs (Plain.getNum xs (Plain.getNum xs (Plain.getNum xs 0).2.1).2.1).2.1).2.2 && (Plain.getText xs (Plain.getNum xs (Plain.getNum xs (Plain.getNum xs (Plain.getNum xs 0).2.1).2.1).2.1).2.1).2.2 &&
    (Plain.getNum xs (Plain.getText xs (Plain.getNum xs (Plain.getNum xs (Plain.getNum xs (Plain.getNum xs 0).2.1).2.1).2.1).2.1).2.1).2.2 &&
    (Plain.getTexts xs (Plain.getNum xs (Plain.getText xs (Plain.getNum xs (Plain.getNum xs (Plain.getNum xs (Plain.getNum xs 0).2.1).2.1).2.1).2.1).2.1).2.1).2.2 &&
    decide ((Plain.getTexts xs (Plain.getNum xs (Plain.getText xs (Plain.getNum xs (Plain.getNum xs (Plain.getNum xs (Plain.getNum xs 0).2.1).2.1).2.1).2.1).2.1).2.1).2.1 = (xs.length : Int)))
def getM (xs : List Int) : Ms × Bool := if (place xs).2 = true ∧ msgOk (place xs).1 = true then ((place xs).1, true) else (ms0, false)
/-- the places one behind the other -/
theorem place_of {xs : List Int} {k f t s n p0 p1 p2 p3 p4 p5 p6 : Int} {r : ByteArray} {x : List ByteArray} {o0 o1 o2 o3 o4 o5 o6 : Bool} (e0 : Plain.getNum xs 0 = (k, p0, o0)) (e1 : Plain.getNum xs p0 = (f, p1, o1)) (e2 : Plain.getNum xs p1 = (t, p2, o2)) (e3 : Plain.getNum xs p2 = (s, p3, o3)) (e4 : Plain.getText xs p3 = (r, p4, o4)) (e5 : Plain.getNum xs p4 = (n, p5, o5)) (e6 : Plain.getTexts xs p5 = (x, p6, o6)) :
    place xs = (⟨k, f, t, ⟨s, r⟩, n, x⟩, o0 && o1 && o2 && o3 && o4 && o5 && o6 && decide (p6 = (xs.length : Int))) := by
  unfold place
  simp only [e0, e1, e2, e3, e4, e5, e6]
theorem num_at {xs : List Int} (pre suf : List Int) (v : Int) (h0 : 0 ≤ v) (h1 : v ≤ 1000000000) (e : xs = pre ++ (Puts.num v ++ suf)) : Plain.getNum xs (pre.length : Int) = (v, ((pre ++ Puts.num v).length : Int), true) := by
  have g := Plain.getNum_back pre suf v
  have ec : Plain.clampN v = v := by unfold Plain.clampN; rw [if_neg (by omega), if_neg (by omega)]
  rw [ec] at g
  rw [e, g, List.length_append, Int.natCast_add]
/-- a word's bytes are read as the word -/
theorem place_bytes {m : Ms} (hk : 0 ≤ m.k ∧ m.k ≤ 1000000000) (hf : 0 ≤ m.f ∧ m.f ≤ 1000000000) (ht : 0 ≤ m.t ∧ m.t ≤ 1000000000) (hs : 0 ≤ m.h.n ∧ m.h.n ≤ 1000000000) (hr : m.h.r.size ≤ 1000000000) (hn : 0 ≤ m.n ∧ m.n ≤ 1000000000) (hx : m.x.length ≤ 200) (hz : ∀ s ∈ m.x, s.size ≤ 1000000000) : place (bytesM m) = (m, true) := by
  obtain ⟨k, f, t, ⟨s, r⟩, n, x⟩ := m
  simp only at *
  have e0 := num_at (xs := bytesM ⟨k, f, t, ⟨s, r⟩, n, x⟩) [] _ k hk.1 hk.2 rfl
  have e1 := num_at (xs := bytesM ⟨k, f, t, ⟨s, r⟩, n, x⟩) ([] ++ Puts.num k) (Puts.num t ++ (Puts.num s ++ (Puts.tx r ++ (Puts.num n ++ (Puts.num (x.length : Int) ++ Puts.txs x))))) f hf.1 hf.2 (by unfold bytesM; simp only [List.append_assoc, List.nil_append])
  have e2 := num_at (xs := bytesM ⟨k, f, t, ⟨s, r⟩, n, x⟩) ([] ++ Puts.num k ++ Puts.num f) (Puts.num s ++ (Puts.tx r ++ (Puts.num n ++ (Puts.num (x.length : Int) ++ Puts.txs x)))) t ht.1 ht.2 (by unfold bytesM; simp only [List.append_assoc, List.nil_append])
  have e3 := num_at (xs := bytesM ⟨k, f, t, ⟨s, r⟩, n, x⟩) ([] ++ Puts.num k ++ Puts.num f ++ Puts.num t) (Puts.tx r ++ (Puts.num n ++ (Puts.num (x.length : Int) ++ Puts.txs x))) s hs.1 hs.2 (by unfold bytesM; simp only [List.append_assoc, List.nil_append])
  have e4 : Plain.getText (bytesM ⟨k, f, t, ⟨s, r⟩, n, x⟩) (([] ++ Puts.num k ++ Puts.num f ++ Puts.num t ++ Puts.num s).length : Int) = (r, (([] ++ Puts.num k ++ Puts.num f ++ Puts.num t ++ Puts.num s ++ Puts.tx r).length : Int), true) := by
    have g := Plain.getText_back ([] ++ Puts.num k ++ Puts.num f ++ Puts.num t ++ Puts.num s) (Puts.num n ++ (Puts.num (x.length : Int) ++ Puts.txs x)) r (by omega)
    have e : bytesM ⟨k, f, t, ⟨s, r⟩, n, x⟩ = [] ++ Puts.num k ++ Puts.num f ++ Puts.num t ++ Puts.num s ++ (Puts.tx r ++ (Puts.num n ++ (Puts.num (x.length : Int) ++ Puts.txs x))) := by unfold bytesM; simp only [List.append_assoc, List.nil_append]
    rw [e, g, List.length_append (bs := Puts.tx r), Int.natCast_add]
  have e5 := num_at (xs := bytesM ⟨k, f, t, ⟨s, r⟩, n, x⟩) ([] ++ Puts.num k ++ Puts.num f ++ Puts.num t ++ Puts.num s ++ Puts.tx r) (Puts.num (x.length : Int) ++ Puts.txs x) n hn.1 hn.2 (by unfold bytesM; simp only [List.append_assoc, List.nil_append])
  have e6 : Plain.getTexts (bytesM ⟨k, f, t, ⟨s, r⟩, n, x⟩) (([] ++ Puts.num k ++ Puts.num f ++ Puts.num t ++ Puts.num s ++ Puts.tx r ++ Puts.num n).length : Int) = (x, ((bytesM ⟨k, f, t, ⟨s, r⟩, n, x⟩).length : Int), true) := by
    have g := Plain.getTexts_back ([] ++ Puts.num k ++ Puts.num f ++ Puts.num t ++ Puts.num s ++ Puts.tx r ++ Puts.num n) [] x hx hz
    have e : bytesM ⟨k, f, t, ⟨s, r⟩, n, x⟩ = ([] ++ Puts.num k ++ Puts.num f ++ Puts.num t ++ Puts.num s ++ Puts.tx r ++ Puts.num n ++ Puts.num (x.length : Int) ++ Puts.txs x) ++ [] := by unfold bytesM; simp only [List.append_assoc, List.nil_append, List.append_nil]
    rw [e, g]
    simp
  rw [place_of e0 e1 e2 e3 e4 e5 e6]
  simp
theorem get_putM {m : Ms} (hm : msgOk m = true) (hz : ∀ s ∈ m.x, s.size ≤ 1000000000) : getM (bytesM m) = (m, true) := by
  obtain ⟨a, b, _, d, e, f⟩ := msg_parts hm
  have hk := (kind_parts f).1
  obtain ⟨h1, h2, h3⟩ := okH_parts13 d
  unfold getM
  rw [place_bytes (by omega) (by omega) (by omega) (by omega) (by omega) (by omega) (msg_len hm) hz, if_pos ⟨rfl, hm⟩]
/-- what is read as a word has that word's bytes -/
theorem put_getM {xs : List Int} {m : Ms} (hb : Byt xs) (h : getM xs = (m, true)) : xs = bytesM m ∧ msgOk m = true := by
  unfold getM at h
  split at h
  · rename_i hc
    obtain ⟨h1, h2⟩ := hc
    obtain ⟨k, p0, o0, e0⟩ : ∃ n p ok, Plain.getNum xs 0 = (n, p, ok) := ⟨_, _, _, rfl⟩
    obtain ⟨f, p1, o1, e1⟩ : ∃ n p ok, Plain.getNum xs p0 = (n, p, ok) := ⟨_, _, _, rfl⟩
    obtain ⟨t, p2, o2, e2⟩ : ∃ n p ok, Plain.getNum xs p1 = (n, p, ok) := ⟨_, _, _, rfl⟩
    obtain ⟨s, p3, o3, e3⟩ : ∃ n p ok, Plain.getNum xs p2 = (n, p, ok) := ⟨_, _, _, rfl⟩
    obtain ⟨r, p4, o4, e4⟩ : ∃ n p ok, Plain.getText xs p3 = (n, p, ok) := ⟨_, _, _, rfl⟩
    obtain ⟨n, p5, o5, e5⟩ : ∃ n p ok, Plain.getNum xs p4 = (n, p, ok) := ⟨_, _, _, rfl⟩
    obtain ⟨x, p6, o6, e6⟩ : ∃ n p ok, Plain.getTexts xs p5 = (n, p, ok) := ⟨_, _, _, rfl⟩
    rw [place_of e0 e1 e2 e3 e4 e5 e6] at h h1 h2
    simp only [Bool.and_eq_true, decide_eq_true_eq] at h1
    obtain ⟨⟨⟨⟨⟨⟨⟨rfl, rfl⟩, rfl⟩, rfl⟩, rfl⟩, rfl⟩, rfl⟩, he⟩ := h1
    injection h with h _
    subst h
    refine ⟨?_, h2⟩
    obtain ⟨q0, rfl, _, _, _, d0⟩ := Can.getNum_canon (a := 0) hb e0
    obtain ⟨q1, rfl, _, _, _, d1⟩ := Can.getNum_canon hb e1
    obtain ⟨q2, rfl, _, _, _, d2⟩ := Can.getNum_canon hb e2
    obtain ⟨q3, rfl, _, _, _, d3⟩ := Can.getNum_canon hb e3
    obtain ⟨q4, rfl, _, d4⟩ := Can.getText_canon hb e4
    obtain ⟨q5, rfl, _, _, _, d5⟩ := Can.getNum_canon hb e5
    obtain ⟨q6, hq6, d6⟩ := Can.getTexts_canon hb e6
    have es : q6 = xs.length := by omega
    rw [es, List.drop_of_length_le (Nat.le_refl _), List.append_nil] at d6
    rw [List.drop_zero] at d0
    conv => lhs; rw [d0, d1, d2, d3, d4, d5, d6]
    unfold bytesM
    simp only
  · injection h with _ h
    cases h
theorem getM_len (xs : List Int) : (getM xs).1.x.length ≤ 200 := by
  unfold getM
  split
  · rename_i hc
    exact msg_len hc.2
  · exact Nat.zero_le _

end Go.Proofs.Yteemblfjghnooaa.Mg
