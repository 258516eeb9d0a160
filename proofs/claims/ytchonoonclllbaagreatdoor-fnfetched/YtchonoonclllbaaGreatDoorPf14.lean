/- Texts in one: Mg1, Mi1, Mg2, Mi2, SrH, MiM, MiN, MiO, MiP. -/
import Derived.Test.YtchonoonclllbaaGreatDoorPf13
namespace Go.Proofs.YtchonoonclllbaaGreatDoor.Mg
open Go.RowKit Go.Proofs.YtchonoonclllbaaGreatDoor.Mem Go.Proofs.YtchonoonclllbaaGreatDoor.Laws Go.Proofs.YtchonoonclllbaaGreatDoor.Sha Go.Proofs.YtchonoonclllbaaGreatDoor.Tr Go.Proofs.YtchonoonclllbaaGreatDoor.He
set_option linter.unusedVariables false
set_option linter.unusedSimpArgs false
structure Ms where
  k : Int
  f : Int
  t : Int
  h : Hd
  n : Int
  x : List ByteArray
def face (m : Ms) : Bool := decide (0 ≤ m.f ∧ m.f ≤ 20) && decide (0 ≤ m.t ∧ m.t ≤ 20) && !decide (m.f = m.t) && okH m.h && decide (0 ≤ m.n ∧ m.n ≤ 200)
def kindOk (m : Ms) : Bool :=
  if m.k = 1 then decide (m.n = 0) && decide (m.x.length = 0)
  else if m.k = 2 then decide (m.n < m.h.n) && decide (m.x.length = 0)
  else if m.k = 3 then decide (m.n < m.h.n) && decide ((m.x.length : Int) = m.h.n - m.n) else false
def msgOk (m : Ms) : Bool := face m && kindOk m
theorem msg_parts {m : Ms} (h : msgOk m = true) : (0 ≤ m.f ∧ m.f ≤ 20) ∧ (0 ≤ m.t ∧ m.t ≤ 20) ∧ ¬ m.f = m.t ∧ okH m.h = true ∧ (0 ≤ m.n ∧ m.n ≤ 200) ∧ kindOk m = true := by
  unfold msgOk face at h
  simp only [Bool.and_eq_true, decide_eq_true_eq, Bool.not_eq_true', decide_eq_false_iff_not] at h
  obtain ⟨⟨⟨⟨⟨a, b⟩, c⟩, d⟩, e⟩, f⟩ := h
  exact ⟨a, b, c, d, e, f⟩
theorem kind_parts {m : Ms} (h : kindOk m = true) : (m.k = 1 ∨ m.k = 2 ∨ m.k = 3) ∧ ((m.x.length : Int) = 0 ∨ (m.x.length : Int) = m.h.n - m.n) := by
  unfold kindOk at h
  split at h
  · simp only [Bool.and_eq_true, decide_eq_true_eq] at h
    exact ⟨Or.inl (by assumption), Or.inl (by omega)⟩
  · split at h
    · simp only [Bool.and_eq_true, decide_eq_true_eq] at h
      exact ⟨Or.inr (Or.inl (by assumption)), Or.inl (by omega)⟩
    · split at h
      · simp only [Bool.and_eq_true, decide_eq_true_eq] at h
        exact ⟨Or.inr (Or.inr (by assumption)), Or.inr h.2⟩
      · cases h
theorem okH_parts13 {h : Hd} (hk : okH h = true) : 0 ≤ h.n ∧ h.n ≤ 200 ∧ h.r.size = 32 := by
  unfold okH at hk
  simp only [decide_eq_true_eq] at hk
  exact ⟨hk.1.1, hk.1.2, hk.2⟩
theorem msg_len {m : Ms} (h : msgOk m = true) : m.x.length ≤ 200 := by
  obtain ⟨_, _, _, d, e, f⟩ := msg_parts h
  have := (okH_parts13 d).2.1
  have := (kind_parts f).2
  omega
def place (xs : List Int) : Ms × Bool :=
  (⟨(Plain.getNum xs 0).1, (Plain.getNum xs (Plain.getNum xs 0).2.1).1, (Plain.getNum xs (Plain.getNum xs (Plain.getNum xs 0).2.1).2.1).1,
    ⟨(Plain.getNum xs (Plain.getNum xs (Plain.getNum xs (Plain.getNum xs 0).2.1).2.1).2.1).1, (Plain.getText xs (Plain.getNum xs (Plain.getNum xs (Plain.getNum xs (Plain.getNum xs 0).2.1).2.1).2.1).2.1).1⟩,
    (Plain.getNum xs (Plain.getText xs (Plain.getNum xs (Plain.getNum xs (Plain.getNum xs (Plain.getNum xs 0).2.1).2.1).2.1).2.1).2.1).1,
    (Plain.getTexts xs (Plain.getNum xs (Plain.getText xs (Plain.getNum xs (Plain.getNum xs (Plain.getNum xs (Plain.getNum xs 0).2.1).2.1).2.1).2.1).2.1).2.1).1⟩,
   (Plain.getNum xs 0).2.2 && (Plain.getNum xs (Plain.getNum xs 0).2.1).2.2 && (Plain.getNum xs (Plain.getNum xs (Plain.getNum xs 0).2.1).2.1).2.2 &&
    (Plain.getNum xs (Plain.getNum xs (Plain.getNum xs (Plain.getNum xs 0).2.1).2.1).2.1).2.2 && (Plain.getText xs (Plain.getNum xs (Plain.getNum xs (Plain.getNum xs (Plain.getNum xs 0).2.1).2.1).2.1).2.1).2.2 &&
    (Plain.getNum xs (Plain.getText xs (Plain.getNum xs (Plain.getNum xs (Plain.getNum xs (Plain.getNum xs 0).2.1).2.1).2.1).2.1).2.1).2.2 &&
    (Plain.getTexts xs (Plain.getNum xs (Plain.getText xs (Plain.getNum xs (Plain.getNum xs (Plain.getNum xs (Plain.getNum xs 0).2.1).2.1).2.1).2.1).2.1).2.1).2.2 &&
    decide ((Plain.getTexts xs (Plain.getNum xs (Plain.getText xs (Plain.getNum xs (Plain.getNum xs (Plain.getNum xs (Plain.getNum xs 0).2.1).2.1).2.1).2.1).2.1).2.1).2.1 = (xs.length : Int)))
end Go.Proofs.YtchonoonclllbaaGreatDoor.Mg
namespace Go.Proofs.YtchonoonclllbaaGreatDoor.Mi
open Go.RowKit Go.Proofs.YtchonoonclllbaaGreatDoor.Mem Go.Proofs.YtchonoonclllbaaGreatDoor.Sha Go.Proofs.YtchonoonclllbaaGreatDoor.Tr Go.Proofs.YtchonoonclllbaaGreatDoor.He Go.Proofs.YtchonoonclllbaaGreatDoor.Lg Go.Proofs.YtchonoonclllbaaGreatDoor.Sr Go.Proofs.YtchonoonclllbaaGreatDoor.Mg
set_option linter.unusedVariables false
structure Mr where
 id : Int
 st : Sto
 b : Hd
def known (t : List Hd) (h : Hd) : Bool := eqH h (headOf []) || signed t h
def mirrorOk (m : Mr) (t : List Hd) : Bool := decide (0 ≤ m.id ∧ m.id ≤ 20) && storeOk m.st && okH m.b && known t m.b && known t m.st.h
def another (m : Mr) (to : Int) : Bool := decide (0 ≤ to ∧ to ≤ 20) && !decide (to = m.id)
def ask1 (m : Mr) (to : Int) : List Ms := if (m.st.l.length : Int) < m.b.n then [⟨2, m.id, to, m.b, (m.st.l.length : Int), []⟩] else []
def ask (m : Mr) (to : Int) : List Ms := if another m to = true then ask1 m to else []
def gossip1 (m : Mr) (to : Int) : List Ms := if another m to = true then [⟨1, m.id, to, m.b, 0, []⟩] else []
def answer (m : Mr) (w : Ms) : List Ms :=
 if w.h.n ≤ (m.st.l.length : Int) ∧ eqH w.h (headOf (m.st.l.take w.h.n.toNat)) = true then [⟨3, m.id, w.f, w.h, w.n, (m.st.l.take w.h.n.toNat).drop w.n.toNat⟩] else []
def better (m : Mr) (h : Hd) : Mr := if m.b.n < h.n then ⟨m.id, m.st, h⟩ else m
def takes (m : Mr) (t : List Hd) (w : Ms) : Mr :=
 if w.n = (m.st.l.length : Int) ∧ m.st.b.length + (put w.h w.x).length ≤ 60000 ∧ (commit1 m.st t w.h w.x).2 = 0 then better ⟨m.id, (commit1 m.st t w.h w.x).1, m.b⟩ w.h else m
def hear1 (m : Mr) (t : List Hd) (w : Ms) : Mr × List Ms :=
 if w.k = 1 then (if signed t w.h = true then (better m w.h, ask (better m w.h) w.f) else (m, []))
 else if w.k = 2 then (m, answer m w) else (takes m t w, [])
def hear (m : Mr) (t : List Hd) (w : Ms) : Mr × List Ms := if mirrorOk m t = true ∧ msgOk w = true ∧ w.t = m.id then hear1 m t w else (m, [])
def gossip (m : Mr) (t : List Hd) (to : Int) : List Ms := if mirrorOk m t = true then gossip1 m to else []
theorem ok_split {m : Mr} {t : List Hd} (h : mirrorOk m t = true) : (0 ≤ m.id ∧ m.id ≤ 20) ∧ storeOk m.st = true ∧ okH m.b = true ∧ known t m.b = true ∧ known t m.st.h = true := by
 unfold mirrorOk at h
 simp only [Bool.and_eq_true, decide_eq_true_eq] at h
 exact ⟨h.1.1.1.1, h.1.1.1.2, h.1.1.2, h.1.2, h.2⟩
theorem ok_join {m : Mr} {t : List Hd} (h1 : 0 ≤ m.id ∧ m.id ≤ 20) (h2 : storeOk m.st = true) (h3 : okH m.b = true) (h4 : known t m.b = true) (h5 : known t m.st.h = true) : mirrorOk m t = true := by
 unfold mirrorOk
 simp only [Bool.and_eq_true, decide_eq_true_eq]
 exact ⟨⟨⟨⟨h1, h2⟩, h3⟩, h4⟩, h5⟩
theorem known_signed {t : List Hd} {h : Hd} (hs : signed t h = true) : known t h = true := by unfold known; rw [hs, Bool.or_true]
theorem better_id (m : Mr) (h : Hd) : (better m h).id = m.id ∧ (better m h).st = m.st ∧ m.b.n ≤ (better m h).b.n := by
 unfold better
 split
 ·
  exact ⟨rfl, rfl, by simp only; omega⟩
 ·
  exact ⟨rfl, rfl, Int.le_refl _⟩
theorem better_ok {m : Mr} {t : List Hd} {h : Hd} (hm : mirrorOk m t = true) (hk : okH h = true) (hs : signed t h = true) : mirrorOk (better m h) t = true := by
 unfold better
 split
 ·
  obtain ⟨a, b, c, d, e⟩ := ok_split hm
  exact ok_join (m := ⟨m.id, m.st, h⟩) a b hk (known_signed hs) e
 ·
  exact hm
theorem takes_ok {m : Mr} {t : List Hd} {w : Ms} (hb : Byt m.st.b) (hm : mirrorOk m t = true) : mirrorOk (takes m t w) t = true ∧ m.st.l <+: (takes m t w).st.l ∧ m.b.n ≤ (takes m t w).b.n := by
 unfold takes
 split
 ·
  rename_i hc
  obtain ⟨a, b, c, d, e⟩ := ok_split hm
  have hcm : commit m.st t w.h w.x = commit1 m.st t w.h w.x := by unfold commit; rw [if_pos ⟨b, hc.2.1⟩]
  have h1 := commit_ok (t := t) (h := w.h) (x := w.x) hb (by rw [hcm]; exact hc.2.2)
  rw [hcm] at h1
  obtain ⟨g1, g2, g3, g4, g5, g6, g7⟩ := commit1_good hc.2.2
  have hm2 : mirrorOk ⟨m.id, (commit1 m.st t w.h w.x).1, m.b⟩ t = true := ok_join (m := ⟨m.id, (commit1 m.st t w.h w.x).1, m.b⟩) a h1.1 c d (by rw [g7]; exact known_signed g3)
  refine ⟨better_ok hm2 g2 g3, ?_, ?_⟩
  ·
   rw [(better_id _ _).2.1, g7]
   exact ⟨_, rfl⟩
  ·
   exact (better_id ⟨m.id, (commit1 m.st t w.h w.x).1, m.b⟩ w.h).2.2
 ·
  exact ⟨hm, ⟨[], by simp⟩, Int.le_refl _⟩
end Go.Proofs.YtchonoonclllbaaGreatDoor.Mi
namespace Go.Proofs.YtchonoonclllbaaGreatDoor.Mg
open Go.RowKit Go.Proofs.YtchonoonclllbaaGreatDoor.Mem Go.Proofs.YtchonoonclllbaaGreatDoor.Laws Go.Proofs.YtchonoonclllbaaGreatDoor.Bytes Go.Proofs.YtchonoonclllbaaGreatDoor.Sha Go.Proofs.YtchonoonclllbaaGreatDoor.Tr Go.Proofs.YtchonoonclllbaaGreatDoor.He
set_option linter.unusedVariables false
set_option linter.unusedSimpArgs false
def mc (m : Ms) (v : Value) : Array Value := #[.int .i64 m.k, .int .i64 m.f, .int .i64 m.t, .int .i64 m.h.n, .string m.h.r, .int .i64 m.n, v]
end Go.Proofs.YtchonoonclllbaaGreatDoor.Mg
namespace Go.Proofs.YtchonoonclllbaaGreatDoor.Mi
open Go.RowKit Go.Proofs.YtchonoonclllbaaGreatDoor.Mem Go.Proofs.YtchonoonclllbaaGreatDoor.Laws Go.Proofs.YtchonoonclllbaaGreatDoor.Bytes Go.Proofs.YtchonoonclllbaaGreatDoor.Sha Go.Proofs.YtchonoonclllbaaGreatDoor.Tr Go.Proofs.YtchonoonclllbaaGreatDoor.He Go.Proofs.YtchonoonclllbaaGreatDoor.Lg Go.Proofs.YtchonoonclllbaaGreatDoor.Sr Go.Proofs.YtchonoonclllbaaGreatDoor.Mg
set_option linter.unusedVariables false
set_option linter.unusedSimpArgs false
def mq (id : Int) (v : Value) (h : Hd) (b : Value) (s : Int) (g : Hd) : Array Value := #[.int .i64 id, v, .int .i64 h.n, .string h.r, b, .int .i64 s, .int .i64 g.n, .string g.r]
theorem sizeQ (id : Int) (v : Value) (h : Hd) (b : Value) (s : Int) (g : Hd) : (Tryz.prog.info? 32).map (·.size) = some (mq id v h b s g).size := by
 show _ = some 8
 kernel_rfl
theorem oneQ {v b : Value} (id : Int) (h : Hd) (s : Int) (g : Hd) (hv : v.oneCell' = true) (hb : b.oneCell' = true) : (mq id v h b s g).all (·.oneCell') = true := by
 simp [mq, Value.oneCell']
 exact ⟨hv, hb⟩
end Go.Proofs.YtchonoonclllbaaGreatDoor.Mi
namespace Go.Proofs.YtchonoonclllbaaGreatDoor.Sr
open Go.RowKit Go.Proofs.YtchonoonclllbaaGreatDoor.Mem Go.Proofs.YtchonoonclllbaaGreatDoor.Laws Go.Proofs.YtchonoonclllbaaGreatDoor.Bytes Go.Proofs.YtchonoonclllbaaGreatDoor.Sha Go.Proofs.YtchonoonclllbaaGreatDoor.Tr Go.Proofs.YtchonoonclllbaaGreatDoor.He Go.Proofs.YtchonoonclllbaaGreatDoor.Lg
set_option linter.unusedVariables false
set_option linter.unusedSimpArgs false
theorem pairN {w : World} {lo hi : Nat} {v vb : Value} {cs ds : List Value} (h : Own w lo hi 9 v cs) (k : Own w lo hi 5 vb ds) (hh : lo ≤ hi) : ∃ l1 h1 l2 h2, lo ≤ l1 ∧ l1 ≤ h1 ∧ h1 ≤ hi ∧ lo ≤ l2 ∧ l2 ≤ h2 ∧ h2 ≤ hi ∧ (h1 ≤ l2 ∨ h2 ≤ l1) ∧ Own w l1 h1 9 v cs ∧ Own w l2 h2 5 vb ds := by
 have one : ∀ (e : TypeId) (u : Value) (es : List Value), Own w lo hi e u es → ∃ l1 h1, lo ≤ l1 ∧ l1 ≤ h1 ∧ h1 ≤ hi ∧ Own w l1 h1 e u es ∧ (l1 = h1 ∧ l1 = lo ∨ h1 = l1 + 1 ∧ u.ownBlock = some l1) := by
  intro e u es ho
  obtain ⟨⟨h1, h2⟩, h3⟩ := ho
  rcases h2 with ⟨rfl, h0⟩ | ⟨g, cap, cur, rfl, hb, hg, q⟩
  ·
   exact ⟨lo, lo, Nat.le_refl _, Nat.le_refl _, hh, ⟨⟨h1, Or.inl ⟨rfl, h0⟩⟩, fun g hg => by simp [Value.ownBlock] at hg⟩, Or.inl ⟨rfl, rfl⟩⟩
  ·
   have hl := h3 g rfl
   exact ⟨g, g + 1, hb, by omega, hl, ⟨⟨h1, Or.inr ⟨g, cap, cur, rfl, Nat.le_refl _, hg, q⟩⟩, fun g' hg' => by simp [Value.ownBlock] at hg'; omega⟩, Or.inr ⟨rfl, rfl⟩⟩
 obtain ⟨l1, h1, a1, a2, a3, a4, a5⟩ := one 9 v cs h
 obtain ⟨l2, h2, b1, b2, b3, b4, b5⟩ := one 5 vb ds k
 refine ⟨l1, h1, l2, h2, a1, a2, a3, b1, b2, b3, ?_, a4, b4⟩
 rcases a5 with a5 | ⟨a5, a6⟩
 ·
  omega
 ·
  rcases b5 with b5 | ⟨b5, b6⟩
  ·
   omega
  ·
   have hne := Own.neOwn h k (by decide) l2 b6
   have : l1 ≠ l2 := fun e => hne (by rw [a6, e])
   omega
def Apart2 (l1 h1 l2 h2 : Nat) (w w' : World) : Prop := ∃ m, Apart l1 h1 w m ∧ Apart l2 h2 m w'
theorem Apart2.size {l1 h1 l2 h2 : Nat} {w w' : World} (h : Apart2 l1 h1 l2 h2 w w') : w.heap.size ≤ w'.heap.size := by
 obtain ⟨m, a, b⟩ := h
 exact Nat.le_trans a.size b.size
theorem Apart2.block {l1 h1 l2 h2 : Nat} {w w' : World} (h : Apart2 l1 h1 l2 h2 w w') (k : Nat) (hk : k < w.heap.size) (d1 : k < l1 ∨ h1 ≤ k) (d2 : k < l2 ∨ h2 ≤ k) : w'.heap[k]? = w.heap[k]? := by
 obtain ⟨m, a, b⟩ := h
 rw [b.block k (Nat.lt_of_lt_of_le hk a.size) (by omega), a.block k hk (by omega)]
theorem Apart2.below {l1 h1 l2 h2 B : Nat} {w w' : World} (h : Apart2 l1 h1 l2 h2 w w') (d1 : B ≤ l1) (d2 : B ≤ l2) (hB : B ≤ w.heap.size) : Below B w w' := by
 obtain ⟨m, a, b⟩ := h
 exact (a.below d1 hB).trans (b.below d2 (Nat.le_trans hB a.size))
end Go.Proofs.YtchonoonclllbaaGreatDoor.Sr
namespace Go.Proofs.YtchonoonclllbaaGreatDoor.Mi
open Go.RowKit Go.Proofs.YtchonoonclllbaaGreatDoor.Mem Go.Proofs.YtchonoonclllbaaGreatDoor.Laws Go.Proofs.YtchonoonclllbaaGreatDoor.Bytes Go.Proofs.YtchonoonclllbaaGreatDoor.Sha Go.Proofs.YtchonoonclllbaaGreatDoor.Tr Go.Proofs.YtchonoonclllbaaGreatDoor.He Go.Proofs.YtchonoonclllbaaGreatDoor.Lg Go.Proofs.YtchonoonclllbaaGreatDoor.Sr Go.Proofs.YtchonoonclllbaaGreatDoor.Mg
set_option linter.unusedVariables false
set_option linter.unusedSimpArgs false
def Om (w : World) (lo hi : Nat) (v : Value) (q : List Ms) : Prop :=
 (q = [] ∧ ∃ ao cap, v = .slice ao 0 cap) ∨ (∃ m g u, q = [m] ∧ v = .slice (some ⟨g, 0, none⟩) 1 1 ∧ lo ≤ g ∧ g < hi ∧ hi ≤ w.heap.size ∧ w.heap[g]? = some (.cells (mc m u) 35 (0, 0)) ∧ Own w lo hi 9 u (ss m.x))
theorem Om.nil (w : World) (lo hi : Nat) (ao : Option Addr) (cap : Nat) : Om w lo hi (.slice ao 0 cap) [] := .inl ⟨rfl, _, _, rfl⟩
theorem Om.form {w : World} {lo hi : Nat} {v : Value} {q : List Ms} (h : Om w lo hi v q) : ∃ ao L cap, v = .slice ao L cap ∧ L = q.length ∧ L ≤ 1 := by
 rcases h with ⟨rfl, ao, cap, rfl⟩ | ⟨m, g, u, rfl, rfl, _⟩
 ·
  exact ⟨_, _, _, rfl, rfl, by simp⟩
 ·
  exact ⟨_, _, _, rfl, rfl, by simp⟩
theorem Om.later {w w' : World} {lo hi B : Nat} {v : Value} {q : List Ms} (h : Om w lo hi v q) (b : Below B w w') (hh : hi ≤ B) : Om w' lo hi v q := by
 rcases h with ⟨rfl, h⟩ | ⟨m, g, u, rfl, rfl, h1, h2, h3, h4, h5⟩
 ·
  exact .inl ⟨rfl, h⟩
 ·
  exact .inr ⟨m, g, u, rfl, rfl, h1, h2, Nat.le_trans h3 b.size, (b.block g (by omega)).trans h4, Own.later h5 b hh⟩
theorem Om.mono {w : World} {lo hi lo' hi' : Nat} {v : Value} {q : List Ms} (h : Om w lo hi v q) (h1 : lo' ≤ lo) (h2 : hi ≤ hi') (h3 : hi' ≤ w.heap.size) : Om w lo' hi' v q := by
 rcases h with ⟨rfl, h⟩ | ⟨m, g, u, rfl, rfl, a1, a2, a3, a4, a5⟩
 ·
  exact .inl ⟨rfl, h⟩
 ·
  exact .inr ⟨m, g, u, rfl, rfl, by omega, by omega, h3, a4, a5.mono h1 h2⟩
theorem Om.apart {w w' : World} {lo hi l h : Nat} {v : Value} {q : List Ms} (o : Om w lo hi v q) (p : Apart l h w w') (d : hi ≤ l ∨ h ≤ lo) (hs : hi ≤ w.heap.size) : Om w' lo hi v q := by
 rcases o with ⟨rfl, o⟩ | ⟨m, g, u, rfl, rfl, a1, a2, a3, a4, a5⟩
 ·
  exact .inl ⟨rfl, o⟩
 ·
  exact .inr ⟨m, g, u, rfl, rfl, a1, a2, Nat.le_trans a3 p.size, (p.block g (by omega) (by omega)).trans a4, Own.apart a5 p d hs⟩
theorem Om.setRow {w : World} {lo hi x : Nat} {v : Value} {q : List Ms} (o : Om w lo hi v q) (form : Array Value) (d : x < lo ∨ hi ≤ x) : Om (w.setRow x form) lo hi v q := by
 rcases o with ⟨rfl, o⟩ | ⟨m, g, u, rfl, rfl, a1, a2, a3, a4, a5⟩
 ·
  exact .inl ⟨rfl, o⟩
 ·
  exact .inr ⟨m, g, u, rfl, rfl, a1, a2, by rw [size_setRow]; exact a3, (setRow_other _ _ _ _ (by omega)).trans a4, Own.setRow a5 _ (by omega)⟩
theorem Om.one {w : World} {lo : Nat} {u : Value} (m : Ms) (h : Own w lo w.heap.size 9 u (ss m.x)) (hl : lo ≤ w.heap.size) : Om (w.alloc (.cells (mc m u) 35)) lo (w.alloc (.cells (mc m u) 35)).heap.size (.slice (some ⟨w.heap.size, 0, none⟩) 1 1) [m] :=
 .inr ⟨m, w.heap.size, u, rfl, rfl, hl, by simp, Nat.le_refl _, heap_alloc_new w _, (Own.later h ((Below.refl _ _).alloc (Nat.le_refl _) _) (Nat.le_refl _)).mono (Nat.le_refl _) (by simp)⟩
theorem Om.one0 {w : World} {lo : Nat} (m : Ms) (hx : m.x = []) (hl : lo ≤ w.heap.size) : Om (w.alloc (.cells (mc m (.slice none 0 0)) 35)) lo (w.alloc (.cells (mc m (.slice none 0 0)) 35)).heap.size (.slice (some ⟨w.heap.size, 0, none⟩) 1 1) [m] :=
 Om.one m (by rw [hx]; exact ⟨⟨rfl, Or.inl ⟨rfl, rfl⟩⟩, fun g hg => by simp [Value.ownBlock] at hg⟩) hl
theorem Apart.wide {lo hi l1 h1 : Nat} {a w w' : World} (h : Apart lo hi a w) (k : Apart l1 h1 w w') (e1 : lo ≤ l1) (e2 : h1 ≤ hi) : Apart lo hi a w' :=
 ⟨k.os.trans h.os, k.tape.trans h.tape, k.output.trans h.output, Nat.le_trans h.size k.size, fun i hi1 hi2 => (k.block i (Nat.lt_of_lt_of_le hi1 h.size) (by omega)).trans (h.block i hi1 hi2)⟩
end Go.Proofs.YtchonoonclllbaaGreatDoor.Mi
namespace Go.Proofs.YtchonoonclllbaaGreatDoor.Mi
open Go.RowKit Go.Proofs.YtchonoonclllbaaGreatDoor.Mem Go.Proofs.YtchonoonclllbaaGreatDoor.Laws Go.Proofs.YtchonoonclllbaaGreatDoor.Bytes Go.Proofs.YtchonoonclllbaaGreatDoor.Sha Go.Proofs.YtchonoonclllbaaGreatDoor.Tr Go.Proofs.YtchonoonclllbaaGreatDoor.He Go.Proofs.YtchonoonclllbaaGreatDoor.Lg Go.Proofs.YtchonoonclllbaaGreatDoor.Sr Go.Proofs.YtchonoonclllbaaGreatDoor.Mg
set_option linter.unusedVariables false
def Oq (w : World) (lo hi : Nat) (v : Value) (t : List Hd) : Prop := Oh w lo hi v t ∧ hi ≤ w.heap.size
theorem Oq.later {w w' : World} {lo hi : Nat} {v : Value} {t : List Hd} (h : Oq w lo hi v t) (b : Below w.heap.size w w') : Oq w' lo hi v t := ⟨h.1.later b h.2, Nat.le_trans h.2 b.size⟩
theorem Oq.apart {w w' : World} {lo hi lo' hi' : Nat} {v : Value} {t : List Hd} (h : Oq w lo hi v t) (a : Apart lo' hi' w w') (hd : hi ≤ lo' ∨ hi' ≤ lo) : Oq w' lo hi v t := ⟨On.apart h.1 a (by omega) h.2, Nat.le_trans h.2 a.size⟩
def Omx (w : World) (lo hi : Nat) (v : Value) (q : List Ms) : Prop := Om w lo hi v q ∧ hi ≤ w.heap.size
theorem Omx.later {w w' : World} {lo hi : Nat} {v : Value} {q : List Ms} (h : Omx w lo hi v q) (b : Below w.heap.size w w') : Omx w' lo hi v q := ⟨h.1.later b h.2, Nat.le_trans h.2 b.size⟩
theorem Omx.apart {w w' : World} {lo hi lo' hi' : Nat} {v : Value} {q : List Ms} (h : Omx w lo hi v q) (a : Apart lo' hi' w w') (hd : hi ≤ lo' ∨ hi' ≤ lo) : Omx w' lo hi v q := ⟨Om.apart h.1 a hd h.2, Nat.le_trans h.2 a.size⟩
end Go.Proofs.YtchonoonclllbaaGreatDoor.Mi
namespace Go.Proofs.YtchonoonclllbaaGreatDoor.Mi
open Go.RowKit Go.Proofs.YtchonoonclllbaaGreatDoor.Mem Go.Proofs.YtchonoonclllbaaGreatDoor.Laws Go.Proofs.YtchonoonclllbaaGreatDoor.Bytes Go.Proofs.YtchonoonclllbaaGreatDoor.Sha Go.Proofs.YtchonoonclllbaaGreatDoor.Tr Go.Proofs.YtchonoonclllbaaGreatDoor.He Go.Proofs.YtchonoonclllbaaGreatDoor.Lg Go.Proofs.YtchonoonclllbaaGreatDoor.Sr Go.Proofs.YtchonoonclllbaaGreatDoor.Mg
set_option linter.unusedVariables false
set_option linter.unusedSimpArgs false
theorem Omx.get {w : World} {lo hi L cap : Nat} {ao : Option Addr} {q : Ms} (h : Omx w lo hi (.slice ao L cap) [q]) : ∃ (g : Nat) (u : Value), ao = some ⟨g, 0, none⟩ ∧ L = 1 ∧ cap = 1 ∧ w.heap[g]? = some (.cells (mc q u) 35 (0, 0)) ∧ Own w lo hi 9 u (ss q.x) := by
 rcases h.1 with ⟨h9, _⟩ | ⟨m, g, u, h9, hv, _, _, _, hr, ho⟩
 ·
  cases h9
 ·
  obtain rfl : q = m := by injection h9
  simp only [Value.slice.injEq] at hv
  exact ⟨g, u, hv.1, hv.2.1, hv.2.2, hr, ho⟩
end Go.Proofs.YtchonoonclllbaaGreatDoor.Mi
