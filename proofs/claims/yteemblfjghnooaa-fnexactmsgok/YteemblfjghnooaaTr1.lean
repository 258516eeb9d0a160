/- Chapter 6: trees of digests, plain facts alone. -/
import Derived.Test.YteemblfjghnooaaSha5
import Derived.Test.YteemblfjghnooaaStrs
namespace Go.Proofs.Yteemblfjghnooaa.Tr
open Go.RowKit Go.Proofs.Yteemblfjghnooaa.Mem Go.Proofs.Yteemblfjghnooaa.Laws Go.Proofs.Yteemblfjghnooaa.Sha
set_option linter.unusedVariables false
set_option linter.unusedSimpArgs false

/-- what holds of a list if it holds of all shorter ones -/
theorem lenRec {P : List ByteArray → Prop} (h : ∀ l, (∀ r, r.length < l.length → P r) → P l) (l : List ByteArray) : P l := by
  have key : ∀ (N : Nat) (l : List ByteArray), l.length < N → P l := by
    intro N
    induction N with
    | zero => intro l hl; omega
    | succ N ih => intro l hl; exact h l (fun r hr => ih r (by omega))
  exact key (l.length + 1) l (Nat.lt_succ_self _)
/-- what holds of a number if it holds of all lesser ones -/
theorem natRec {P : Nat → Prop} (h : ∀ n, (∀ m, m < n → P m) → P n) (n : Nat) : P n := by
  have key : ∀ (N : Nat) (n : Nat), n < N → P n := by
    intro N
    induction N with
    | zero => intro n hn; omega
    | succ N ih => intro n hn; exact h n (fun m hm => ih m (by omega))
  exact key (n + 1) n (Nat.lt_succ_self _)

/-- a number doubled from k on while it stays below n -/
def halfF : Nat → Nat → Nat → Nat
  | 0, k, _ => k
  | f + 1, k, n => if 2 * k < n then halfF f (2 * k) n else k
/-- the greatest power of 2 that is less than n (of 2 or more) -/
def half (n : Nat) : Nat := halfF n 1 n
/-- a power of 2 -/
def Pow (p : Nat) : Prop := ∃ e, p = 2 ^ e
theorem halfF_ok : ∀ (f k n : Nat), 1 ≤ k → k < n → n ≤ k + f → Pow k → Pow (halfF f k n) ∧ halfF f k n < n ∧ n ≤ 2 * halfF f k n := by
  intro f
  induction f with
  | zero => intro k n h1 h2 h3; omega
  | succ f ih =>
    intro k n h1 h2 h3 hp
    unfold halfF
    split
    · exact ih (2 * k) n (by omega) (by assumption) (by omega) (by obtain ⟨e, rfl⟩ := hp; exact ⟨e + 1, by rw [Nat.pow_succ]; omega⟩)
    · exact ⟨hp, h2, by omega⟩
theorem half_ok {n : Nat} (h : 2 ≤ n) : Pow (half n) ∧ half n < n ∧ n ≤ 2 * half n := halfF_ok n 1 n (by omega) (by omega) (by omega) ⟨0, rfl⟩
theorem half_pos {n : Nat} (h : 2 ≤ n) : 1 ≤ half n := by
  have := (half_ok h).2.2
  omega
theorem pow_one {p q n : Nat} (hp : Pow p) (hq : Pow q) (h1 : p < n) (h2 : n ≤ 2 * p) (h3 : q < n) (h4 : n ≤ 2 * q) : p = q := by
  obtain ⟨e, rfl⟩ := hp
  obtain ⟨d, rfl⟩ := hq
  have a1 : 2 ^ e < 2 ^ (d + 1) := by rw [Nat.pow_succ]; omega
  have a2 : 2 ^ d < 2 ^ (e + 1) := by rw [Nat.pow_succ]; omega
  have b1 := (Nat.pow_lt_pow_iff_right (by omega : 1 < 2)).1 a1
  have b2 := (Nat.pow_lt_pow_iff_right (by omega : 1 < 2)).1 a2
  have : e = d := by omega
  rw [this]
/-- more than half of it has the same half -/
theorem half_same {n m : Nat} (hm : 2 ≤ m) (h1 : half m < n) (h2 : n ≤ m) : half n = half m := by
  have hp := half_pos hm
  obtain ⟨a, b, c⟩ := half_ok hm
  obtain ⟨a', b', c'⟩ := half_ok (n := n) (by omega)
  exact pow_one a' a b' c' h1 (by omega)

/-- a leaf's digest, a node's -/
def leafH (s : ByteArray) : ByteArray := Plain.txt (digest (0 :: sb s))
def nodeH (a b : ByteArray) : ByteArray := Plain.txt (digest (1 :: (sb a ++ sb b)))
theorem leafH_size (s : ByteArray) : (leafH s).size = 32 := by unfold leafH; rw [txt_size, digest_len]
theorem nodeH_size (a b : ByteArray) : (nodeH a b).size = 32 := by unfold nodeH; rw [txt_size, digest_len]

/-- the root of no text, or of the first one -/
def root1 : List ByteArray → ByteArray
  | [] => Plain.txt (digest [])
  | s :: _ => leafH s
/-- the root of a list (f: more than it has) -/
def rootF : Nat → List ByteArray → ByteArray
  | 0, _ => ⟨#[]⟩
  | f + 1, l =>
    if 2 ≤ l.length then nodeH (rootF f (l.take (half l.length))) (rootF f (l.drop (half l.length)))
    else root1 l
theorem take_lt {l : List ByteArray} (h : 2 ≤ l.length) : (l.take (half l.length)).length < l.length := by
  rw [List.length_take]; have := (half_ok h).2.1; omega
theorem drop_lt {l : List ByteArray} (h : 2 ≤ l.length) : (l.drop (half l.length)).length < l.length := by
  rw [List.length_drop]; have := half_pos h; omega
theorem rootF_any : ∀ (f g : Nat) (l : List ByteArray), l.length < f → l.length < g → rootF f l = rootF g l := by
  intro f
  induction f with
  | zero => intro g l hf; omega
  | succ f ih =>
    intro g l hf hg
    cases g with
    | zero => omega
    | succ g =>
      by_cases h : 2 ≤ l.length
      · have h1 := take_lt h
        have h2 := drop_lt h
        rw [rootF, rootF, if_pos h, if_pos h, ih g (l.take (half l.length)) (by omega) (by omega), ih g (l.drop (half l.length)) (by omega) (by omega)]
      · rw [rootF, rootF, if_neg h, if_neg h]
def root (l : List ByteArray) : ByteArray := rootF (l.length + 1) l
theorem root_if (l : List ByteArray) : root l = if 2 ≤ l.length then nodeH (root (l.take (half l.length))) (root (l.drop (half l.length))) else root1 l := by
  unfold root
  by_cases h : 2 ≤ l.length
  · have h1 := take_lt h
    have h2 := drop_lt h
    rw [rootF, if_pos h, if_pos h, rootF_any l.length ((l.take (half l.length)).length + 1) (l.take (half l.length)) (by omega) (by omega), rootF_any l.length ((l.drop (half l.length)).length + 1) (l.drop (half l.length)) (by omega) (by omega)]
  · rw [rootF, if_neg h, if_neg h]
theorem root_nil : root [] = Plain.txt (digest []) := by rw [root_if]; simp [root1]
theorem root_one (s : ByteArray) : root [s] = leafH s := by rw [root_if]; simp [root1]
theorem root_more {l : List ByteArray} (h : 2 ≤ l.length) : root l = nodeH (root (l.take (half l.length))) (root (l.drop (half l.length))) := by
  rw [root_if, if_pos h]
theorem root_size (l : List ByteArray) : (root l).size = 32 := by
  by_cases h : 2 ≤ l.length
  · rw [root_more h]; exact nodeH_size _ _
  · match l, h with
    | [], _ => rw [root_nil, txt_size, digest_len]
    | [s], _ => rw [root_one]; exact leafH_size s
    | _ :: _ :: _, h => simp at h

/-- the path of the i-th (f: more than there are) -/
def pathF : Nat → List ByteArray → Nat → List ByteArray
  | 0, _, _ => []
  | f + 1, l, i =>
    if 2 ≤ l.length then
      (if i < half l.length then pathF f (l.take (half l.length)) i ++ [root (l.drop (half l.length))]
       else pathF f (l.drop (half l.length)) (i - half l.length) ++ [root (l.take (half l.length))])
    else []
theorem pathF_any : ∀ (f g : Nat) (l : List ByteArray) (i : Nat), l.length < f → l.length < g → pathF f l i = pathF g l i := by
  intro f
  induction f with
  | zero => intro g l i hf; omega
  | succ f ih =>
    intro g l i hf hg
    cases g with
    | zero => omega
    | succ g =>
      by_cases h : 2 ≤ l.length
      · have h1 := take_lt h
        have h2 := drop_lt h
        rw [pathF, pathF, if_pos h, if_pos h, ih g (l.take (half l.length)) i (by omega) (by omega), ih g (l.drop (half l.length)) (i - half l.length) (by omega) (by omega)]
      · rw [pathF, pathF, if_neg h, if_neg h]
def path (l : List ByteArray) (i : Nat) : List ByteArray := pathF (l.length + 1) l i
theorem path_if (l : List ByteArray) (i : Nat) : path l i = if 2 ≤ l.length then
      (if i < half l.length then path (l.take (half l.length)) i ++ [root (l.drop (half l.length))]
       else path (l.drop (half l.length)) (i - half l.length) ++ [root (l.take (half l.length))])
    else [] := by
  unfold path
  by_cases h : 2 ≤ l.length
  · have h1 := take_lt h
    have h2 := drop_lt h
    rw [pathF, if_pos h, if_pos h, pathF_any l.length ((l.take (half l.length)).length + 1) (l.take (half l.length)) i (by omega) (by omega), pathF_any l.length ((l.drop (half l.length)).length + 1) (l.drop (half l.length)) (i - half l.length) (by omega) (by omega)]
  · rw [pathF, if_neg h, if_neg h]
theorem path_no {l : List ByteArray} (h : ¬ 2 ≤ l.length) (i : Nat) : path l i = [] := by rw [path_if, if_neg h]
theorem path_low {l : List ByteArray} (h : 2 ≤ l.length) {i : Nat} (hi : i < half l.length) : path l i = path (l.take (half l.length)) i ++ [root (l.drop (half l.length))] := by
  rw [path_if, if_pos h, if_pos hi]
theorem path_high {l : List ByteArray} (h : 2 ≤ l.length) {i : Nat} (hi : ¬ i < half l.length) : path l i = path (l.drop (half l.length)) (i - half l.length) ++ [root (l.take (half l.length))] := by
  rw [path_if, if_pos h, if_neg hi]

/-- how many parts a path has (f: more than n) -/
def depF : Nat → Nat → Nat → Nat
  | 0, _, _ => 0
  | f + 1, i, n => if 2 ≤ n then (if i < half n then depF f i (half n) + 1 else depF f (i - half n) (n - half n) + 1) else 0
theorem depF_any : ∀ (f g i n : Nat), n < f → n < g → depF f i n = depF g i n := by
  intro f
  induction f with
  | zero => intro g i n hf; omega
  | succ f ih =>
    intro g i n hf hg
    cases g with
    | zero => omega
    | succ g =>
      by_cases h : 2 ≤ n
      · have h1 := (half_ok h).2.1
        have h2 := half_pos h
        rw [depF, depF, if_pos h, if_pos h, ih g i (half n) (by omega) (by omega), ih g (i - half n) (n - half n) (by omega) (by omega)]
      · rw [depF, depF, if_neg h, if_neg h]
def dep (i n : Nat) : Nat := depF (n + 1) i n
theorem dep_if (i n : Nat) : dep i n = if 2 ≤ n then (if i < half n then dep i (half n) + 1 else dep (i - half n) (n - half n) + 1) else 0 := by
  unfold dep
  by_cases h : 2 ≤ n
  · have h1 := (half_ok h).2.1
    have h2 := half_pos h
    rw [depF, if_pos h, if_pos h, depF_any n (half n + 1) i (half n) (by omega) (by omega), depF_any n (n - half n + 1) (i - half n) (n - half n) (by omega) (by omega)]
  · rw [depF, if_neg h, if_neg h]
theorem path_len (l : List ByteArray) : ∀ i : Nat, (path l i).length = dep i l.length := by
  refine lenRec (P := fun l => ∀ i : Nat, (path l i).length = dep i l.length) ?_ l
  intro l ih i
  by_cases h : 2 ≤ l.length
  · have hk := half_ok h
    have hp := half_pos h
    rw [dep_if, if_pos h]
    by_cases hi : i < half l.length
    · rw [path_low h hi, if_pos hi, List.length_append, ih (l.take (half l.length)) (take_lt h) i, List.length_take, Nat.min_eq_left (by omega)]
      rfl
    · rw [path_high h hi, if_neg hi, List.length_append, ih (l.drop (half l.length)) (drop_lt h) (i - half l.length), List.length_drop]
      rfl
  · rw [path_no h, dep_if, if_neg h]
    rfl

/-- the root over a path; false: it has not as many as it must (f: more than n) -/
def upF : Nat → ByteArray → Nat → Nat → List ByteArray → ByteArray × Bool
  | 0, _, _, _, _ => (⟨#[]⟩, false)
  | f + 1, leaf, i, n, p =>
    if 2 ≤ n then
      (match p.getLast? with
       | none => (⟨#[]⟩, false)
       | some last =>
         if i < half n then (nodeH (upF f leaf i (half n) p.dropLast).1 last, (upF f leaf i (half n) p.dropLast).2)
         else (nodeH last (upF f leaf (i - half n) (n - half n) p.dropLast).1, (upF f leaf (i - half n) (n - half n) p.dropLast).2))
    else (leaf, p.isEmpty)
theorem upF_any : ∀ (f g : Nat) (leaf : ByteArray) (i n : Nat) (p : List ByteArray), n < f → n < g → upF f leaf i n p = upF g leaf i n p := by
  intro f
  induction f with
  | zero => intro g leaf i n p hf; omega
  | succ f ih =>
    intro g leaf i n p hf hg
    cases g with
    | zero => omega
    | succ g =>
      by_cases h : 2 ≤ n
      · have h1 := (half_ok h).2.1
        have h2 := half_pos h
        rw [upF, upF, if_pos h, if_pos h, ih g leaf i (half n) p.dropLast (by omega) (by omega), ih g leaf (i - half n) (n - half n) p.dropLast (by omega) (by omega)]
      · rw [upF, upF, if_neg h, if_neg h]
def up (leaf : ByteArray) (i n : Nat) (p : List ByteArray) : ByteArray × Bool := upF (n + 1) leaf i n p
theorem up_if (leaf : ByteArray) (i n : Nat) (p : List ByteArray) : up leaf i n p = if 2 ≤ n then
      (match p.getLast? with
       | none => (⟨#[]⟩, false)
       | some last =>
         if i < half n then (nodeH (up leaf i (half n) p.dropLast).1 last, (up leaf i (half n) p.dropLast).2)
         else (nodeH last (up leaf (i - half n) (n - half n) p.dropLast).1, (up leaf (i - half n) (n - half n) p.dropLast).2))
    else (leaf, p.isEmpty) := by
  unfold up
  by_cases h : 2 ≤ n
  · have h1 := (half_ok h).2.1
    have h2 := half_pos h
    rw [upF, if_pos h, if_pos h, upF_any n (half n + 1) leaf i (half n) p.dropLast (by omega) (by omega), upF_any n (n - half n + 1) leaf (i - half n) (n - half n) p.dropLast (by omega) (by omega)]
  · rw [upF, if_neg h, if_neg h]
theorem up_no {n : Nat} (h : ¬ 2 ≤ n) (leaf : ByteArray) (i : Nat) (p : List ByteArray) : up leaf i n p = (leaf, p.isEmpty) := by rw [up_if, if_neg h]
theorem up_nil {n : Nat} (h : 2 ≤ n) (leaf : ByteArray) (i : Nat) : up leaf i n [] = (⟨#[]⟩, false) := by rw [up_if, if_pos h]; rfl
theorem up_low {n i : Nat} (h : 2 ≤ n) (hi : i < half n) (leaf last : ByteArray) (p : List ByteArray) : up leaf i n (p ++ [last]) = (nodeH (up leaf i (half n) p).1 last, (up leaf i (half n) p).2) := by
  rw [up_if, if_pos h, List.getLast?_append]
  simp only [List.getLast?_singleton, Option.some_or, List.dropLast_concat, if_pos hi]
theorem up_high {n i : Nat} (h : 2 ≤ n) (hi : ¬ i < half n) (leaf last : ByteArray) (p : List ByteArray) : up leaf i n (p ++ [last]) = (nodeH last (up leaf (i - half n) (n - half n) p).1, (up leaf (i - half n) (n - half n) p).2) := by
  rw [up_if, if_pos h, List.getLast?_append]
  simp only [List.getLast?_singleton, Option.some_or, List.dropLast_concat, if_neg hi]
theorem up_len (n : Nat) : ∀ (leaf : ByteArray) (i : Nat) (p : List ByteArray), (up leaf i n p).2 = decide (p.length = dep i n) := by
  refine natRec (P := fun n => ∀ (leaf : ByteArray) (i : Nat) (p : List ByteArray), (up leaf i n p).2 = decide (p.length = dep i n)) ?_ n
  intro n ih leaf i p
  by_cases h : 2 ≤ n
  · have hk := half_ok h
    have hp := half_pos h
    rcases List.eq_nil_or_concat p with rfl | ⟨q, last, rfl⟩
    · rw [up_nil h, dep_if, if_pos h]
      symm
      apply decide_eq_false
      split <;> simp
    · rw [List.concat_eq_append, dep_if, if_pos h]
      by_cases hi : i < half n
      · rw [up_low h hi, if_pos hi, ih (half n) (by omega) leaf i q]
        simp
      · rw [up_high h hi, if_neg hi, ih (n - half n) (by omega) leaf (i - half n) q]
        simp
  · rw [up_no h, dep_if, if_neg h]
    cases p <;> simp
/-- each text has its path -/
theorem up_path (l : List ByteArray) : ∀ (i : Nat) (s : ByteArray) (hs : l[i]? = some s), up (leafH s) i l.length (path l i) = (root l, true) := by
  refine lenRec (P := fun l => ∀ (i : Nat) (s : ByteArray) (hs : l[i]? = some s), up (leafH s) i l.length (path l i) = (root l, true)) ?_ l
  intro l ih i s hs
  have hil : i < l.length := (List.getElem?_eq_some_iff.1 hs).1
  by_cases h : 2 ≤ l.length
  · have hk := half_ok h
    have hp := half_pos h
    by_cases hi : i < half l.length
    · have e := ih (l.take (half l.length)) (take_lt h) i s (by rw [List.getElem?_take_of_lt hi]; exact hs)
      rw [List.length_take, Nat.min_eq_left (by omega)] at e
      rw [path_low h hi, up_low h hi, e, root_more h]
    · have e := ih (l.drop (half l.length)) (drop_lt h) (i - half l.length) s (by rw [List.getElem?_drop]; rw [show half l.length + (i - half l.length) = i by omega]; exact hs)
      rw [List.length_drop] at e
      rw [path_high h hi, up_high h hi, e, root_more h]
  · rw [path_no h, up_no h]
    match l, h with
    | [], _ => simp at hil
    | [t], _ =>
      have : i = 0 := by simp at hil; omega
      subst this
      simp at hs
      subst hs
      rw [root_one]
      rfl
    | _ :: _ :: _, h => simp at h

/-- what tells that a list came of its first n (f: more than it has) -/
def growF : Nat → List ByteArray → Nat → Bool → List ByteArray
  | 0, _, _, _ => []
  | f + 1, l, n, whole =>
    if n = l.length then (if whole = true then [] else [root l])
    else if 2 ≤ l.length then
      (if n ≤ half l.length then growF f (l.take (half l.length)) n whole ++ [root (l.drop (half l.length))]
       else growF f (l.drop (half l.length)) (n - half l.length) false ++ [root (l.take (half l.length))])
    else []
theorem growF_any : ∀ (f g : Nat) (l : List ByteArray) (n : Nat) (whole : Bool), l.length < f → l.length < g → growF f l n whole = growF g l n whole := by
  intro f
  induction f with
  | zero => intro g l n whole hf; omega
  | succ f ih =>
    intro g l n whole hf hg
    cases g with
    | zero => omega
    | succ g =>
      by_cases h : 2 ≤ l.length
      · have h1 := take_lt h
        have h2 := drop_lt h
        rw [growF, growF, if_pos h, if_pos h, ih g (l.take (half l.length)) n whole (by omega) (by omega), ih g (l.drop (half l.length)) (n - half l.length) false (by omega) (by omega)]
      · rw [growF, growF, if_neg h, if_neg h]
def grow (l : List ByteArray) (n : Nat) (whole : Bool) : List ByteArray := growF (l.length + 1) l n whole
theorem grow_if (l : List ByteArray) (n : Nat) (whole : Bool) : grow l n whole = if n = l.length then (if whole = true then [] else [root l])
    else if 2 ≤ l.length then
      (if n ≤ half l.length then grow (l.take (half l.length)) n whole ++ [root (l.drop (half l.length))]
       else grow (l.drop (half l.length)) (n - half l.length) false ++ [root (l.take (half l.length))])
    else [] := by
  unfold grow
  by_cases h : 2 ≤ l.length
  · have h1 := take_lt h
    have h2 := drop_lt h
    rw [growF, if_pos h, if_pos h, growF_any l.length ((l.take (half l.length)).length + 1) (l.take (half l.length)) n whole (by omega) (by omega), growF_any l.length ((l.drop (half l.length)).length + 1) (l.drop (half l.length)) (n - half l.length) false (by omega) (by omega)]
  · rw [growF, if_neg h, if_neg h]
theorem grow_all (l : List ByteArray) (whole : Bool) : grow l l.length whole = if whole = true then [] else [root l] := by rw [grow_if, if_pos rfl]
theorem grow_low {l : List ByteArray} (h : 2 ≤ l.length) {n : Nat} (hn : n ≠ l.length) (hi : n ≤ half l.length) (whole : Bool) : grow l n whole = grow (l.take (half l.length)) n whole ++ [root (l.drop (half l.length))] := by
  rw [grow_if, if_neg hn, if_pos h, if_pos hi]
theorem grow_high {l : List ByteArray} (h : 2 ≤ l.length) {n : Nat} (hn : n ≠ l.length) (hi : ¬ n ≤ half l.length) (whole : Bool) : grow l n whole = grow (l.drop (half l.length)) (n - half l.length) false ++ [root (l.take (half l.length))] := by
  rw [grow_if, if_neg hn, if_pos h, if_neg hi]
theorem grow_pos {l : List ByteArray} {n : Nat} (h1 : 1 ≤ n) (hn : n < l.length) (whole : Bool) : 0 < (grow l n whole).length := by
  have h : 2 ≤ l.length := by omega
  by_cases hi : n ≤ half l.length
  · rw [grow_low h (by omega) hi]; simp
  · rw [grow_high h (by omega) hi]; simp

/-- how many parts it has (f: more than m) -/
def gdepF : Nat → Nat → Nat → Bool → Nat
  | 0, _, _, _ => 0
  | f + 1, n, m, whole =>
    if n = m then (if whole = true then 0 else 1)
    else if 2 ≤ m then (if n ≤ half m then gdepF f n (half m) whole + 1 else gdepF f (n - half m) (m - half m) false + 1) else 0
theorem gdepF_any : ∀ (f g n m : Nat) (whole : Bool), m < f → m < g → gdepF f n m whole = gdepF g n m whole := by
  intro f
  induction f with
  | zero => intro g n m whole hf; omega
  | succ f ih =>
    intro g n m whole hf hg
    cases g with
    | zero => omega
    | succ g =>
      by_cases h : 2 ≤ m
      · have h1 := (half_ok h).2.1
        have h2 := half_pos h
        rw [gdepF, gdepF, if_pos h, if_pos h, ih g n (half m) whole (by omega) (by omega), ih g (n - half m) (m - half m) false (by omega) (by omega)]
      · rw [gdepF, gdepF, if_neg h, if_neg h]
def gdep (n m : Nat) (whole : Bool) : Nat := gdepF (m + 1) n m whole
theorem gdep_if (n m : Nat) (whole : Bool) : gdep n m whole = if n = m then (if whole = true then 0 else 1)
    else if 2 ≤ m then (if n ≤ half m then gdep n (half m) whole + 1 else gdep (n - half m) (m - half m) false + 1) else 0 := by
  unfold gdep
  by_cases h : 2 ≤ m
  · have h1 := (half_ok h).2.1
    have h2 := half_pos h
    rw [gdepF, if_pos h, if_pos h, gdepF_any m (half m + 1) n (half m) whole (by omega) (by omega), gdepF_any m (m - half m + 1) (n - half m) (m - half m) false (by omega) (by omega)]
  · rw [gdepF, if_neg h, if_neg h]
theorem grow_len (l : List ByteArray) : ∀ (n : Nat) (whole : Bool), (grow l n whole).length = gdep n l.length whole := by
  refine lenRec (P := fun l => ∀ (n : Nat) (whole : Bool), (grow l n whole).length = gdep n l.length whole) ?_ l
  intro l ih n whole
  by_cases hn : n = l.length
  · subst hn
    rw [grow_all, gdep_if, if_pos rfl]
    cases whole <;> rfl
  · by_cases h : 2 ≤ l.length
    · have hk := half_ok h
      have hp := half_pos h
      rw [gdep_if, if_neg hn, if_pos h]
      by_cases hi : n ≤ half l.length
      · rw [grow_low h hn hi, if_pos hi, List.length_append, ih (l.take (half l.length)) (take_lt h) n whole, List.length_take, Nat.min_eq_left (by omega)]
        rfl
      · rw [grow_high h hn hi, if_neg hi, List.length_append, ih (l.drop (half l.length)) (drop_lt h) (n - half l.length) false, List.length_drop]
        rfl
    · rw [grow_if, if_neg hn, if_neg h, gdep_if, if_neg hn, if_neg h]
      rfl

/-- the roots of the first n and of all m over such a path; false: it has not as many as it must (f: more than m) -/
def grownF : Nat → Nat → Nat → Bool → ByteArray → List ByteArray → ByteArray × ByteArray × Bool
  | 0, _, _, _, _, _ => (⟨#[]⟩, ⟨#[]⟩, false)
  | f + 1, n, m, whole, a, p =>
    if n = m then
      (if whole = true then (a, a, p.isEmpty)
       else if p.length = 1 then (p.headD ⟨#[]⟩, p.headD ⟨#[]⟩, true) else (⟨#[]⟩, ⟨#[]⟩, false))
    else if 2 ≤ m then
      (match p.getLast? with
       | none => (⟨#[]⟩, ⟨#[]⟩, false)
       | some last =>
         if n ≤ half m then ((grownF f n (half m) whole a p.dropLast).1, nodeH (grownF f n (half m) whole a p.dropLast).2.1 last, (grownF f n (half m) whole a p.dropLast).2.2)
         else (nodeH last (grownF f (n - half m) (m - half m) false a p.dropLast).1, nodeH last (grownF f (n - half m) (m - half m) false a p.dropLast).2.1, (grownF f (n - half m) (m - half m) false a p.dropLast).2.2))
    else (⟨#[]⟩, ⟨#[]⟩, false)
theorem grownF_any : ∀ (f g n m : Nat) (whole : Bool) (a : ByteArray) (p : List ByteArray), m < f → m < g → grownF f n m whole a p = grownF g n m whole a p := by
  intro f
  induction f with
  | zero => intro g n m whole a p hf; omega
  | succ f ih =>
    intro g n m whole a p hf hg
    cases g with
    | zero => omega
    | succ g =>
      by_cases h : 2 ≤ m
      · have h1 := (half_ok h).2.1
        have h2 := half_pos h
        rw [grownF, grownF, if_pos h, if_pos h, ih g n (half m) whole a p.dropLast (by omega) (by omega), ih g (n - half m) (m - half m) false a p.dropLast (by omega) (by omega)]
      · rw [grownF, grownF, if_neg h, if_neg h]
def grown (n m : Nat) (whole : Bool) (a : ByteArray) (p : List ByteArray) : ByteArray × ByteArray × Bool := grownF (m + 1) n m whole a p
theorem grown_if (n m : Nat) (whole : Bool) (a : ByteArray) (p : List ByteArray) : grown n m whole a p = if n = m then
      (if whole = true then (a, a, p.isEmpty)
       else if p.length = 1 then (p.headD ⟨#[]⟩, p.headD ⟨#[]⟩, true) else (⟨#[]⟩, ⟨#[]⟩, false))
    else if 2 ≤ m then
      (match p.getLast? with
       | none => (⟨#[]⟩, ⟨#[]⟩, false)
       | some last =>
         if n ≤ half m then ((grown n (half m) whole a p.dropLast).1, nodeH (grown n (half m) whole a p.dropLast).2.1 last, (grown n (half m) whole a p.dropLast).2.2)
         else (nodeH last (grown (n - half m) (m - half m) false a p.dropLast).1, nodeH last (grown (n - half m) (m - half m) false a p.dropLast).2.1, (grown (n - half m) (m - half m) false a p.dropLast).2.2))
    else (⟨#[]⟩, ⟨#[]⟩, false) := by
  unfold grown
  by_cases h : 2 ≤ m
  · have h1 := (half_ok h).2.1
    have h2 := half_pos h
    rw [grownF, if_pos h, if_pos h, grownF_any m (half m + 1) n (half m) whole a p.dropLast (by omega) (by omega), grownF_any m (m - half m + 1) (n - half m) (m - half m) false a p.dropLast (by omega) (by omega)]
  · rw [grownF, if_neg h, if_neg h]
theorem grown_whole (m : Nat) (a : ByteArray) (p : List ByteArray) : grown m m true a p = (a, a, p.isEmpty) := by rw [grown_if, if_pos rfl, if_pos rfl]
theorem grown_one (m : Nat) (a x : ByteArray) : grown m m false a [x] = (x, x, true) := by rw [grown_if, if_pos rfl, if_neg (by simp)]; simp
theorem grown_not {m : Nat} (a : ByteArray) {p : List ByteArray} (hp : p.length ≠ 1) : grown m m false a p = (⟨#[]⟩, ⟨#[]⟩, false) := by
  rw [grown_if, if_pos rfl, if_neg (by simp), if_neg hp]
theorem grown_nil {n m : Nat} (hn : n ≠ m) (h : 2 ≤ m) (whole : Bool) (a : ByteArray) : grown n m whole a [] = (⟨#[]⟩, ⟨#[]⟩, false) := by rw [grown_if, if_neg hn, if_pos h]; rfl
theorem grown_low {n m : Nat} (hn : n ≠ m) (h : 2 ≤ m) (hi : n ≤ half m) (whole : Bool) (a last : ByteArray) (p : List ByteArray) :
    grown n m whole a (p ++ [last]) = ((grown n (half m) whole a p).1, nodeH (grown n (half m) whole a p).2.1 last, (grown n (half m) whole a p).2.2) := by
  rw [grown_if, if_neg hn, if_pos h, List.getLast?_append]
  simp only [List.getLast?_singleton, Option.some_or, List.dropLast_concat, if_pos hi]
theorem grown_high {n m : Nat} (hn : n ≠ m) (h : 2 ≤ m) (hi : ¬ n ≤ half m) (whole : Bool) (a last : ByteArray) (p : List ByteArray) :
    grown n m whole a (p ++ [last]) = (nodeH last (grown (n - half m) (m - half m) false a p).1, nodeH last (grown (n - half m) (m - half m) false a p).2.1, (grown (n - half m) (m - half m) false a p).2.2) := by
  rw [grown_if, if_neg hn, if_pos h, List.getLast?_append]
  simp only [List.getLast?_singleton, Option.some_or, List.dropLast_concat, if_neg hi]
theorem grown_len (m : Nat) : ∀ (n : Nat) (whole : Bool) (a : ByteArray) (p : List ByteArray), 1 ≤ n → n ≤ m → (grown n m whole a p).2.2 = decide (p.length = gdep n m whole) := by
  refine natRec (P := fun m => ∀ (n : Nat) (whole : Bool) (a : ByteArray) (p : List ByteArray), 1 ≤ n → n ≤ m → (grown n m whole a p).2.2 = decide (p.length = gdep n m whole)) ?_ m
  intro m ih n whole a p h1 hnm
  by_cases hn : n = m
  · subst hn
    rw [gdep_if, if_pos rfl]
    cases whole
    · by_cases hp : p.length = 1
      · obtain ⟨x, rfl⟩ := List.length_eq_one_iff.1 hp
        rw [grown_one]
        simp
      · rw [grown_not a hp]
        simp [hp]
    · rw [grown_whole]
      cases p <;> simp
  · have h : 2 ≤ m := by omega
    have hk := half_ok h
    have hp := half_pos h
    rcases List.eq_nil_or_concat p with rfl | ⟨q, last, rfl⟩
    · rw [grown_nil hn h, gdep_if, if_neg hn, if_pos h]
      symm
      apply decide_eq_false
      split <;> simp
    · rw [List.concat_eq_append, gdep_if, if_neg hn, if_pos h]
      by_cases hi : n ≤ half m
      · rw [grown_low hn h hi, if_pos hi, ih (half m) (by omega) n whole a q h1 hi]
        simp
      · rw [grown_high hn h hi, if_neg hi, ih (m - half m) (by omega) (n - half m) false a q (by omega) (by omega)]
        simp
/-- each beginning has its path -/
theorem grown_grow (l : List ByteArray) : ∀ (n : Nat) (whole : Bool) (a : ByteArray) (h1 : 1 ≤ n) (hn : n ≤ l.length) (ha : whole = true → a = root (l.take n)),
    grown n l.length whole a (grow l n whole) = (root (l.take n), root l, true) := by
  refine lenRec (P := fun l => ∀ (n : Nat) (whole : Bool) (a : ByteArray) (h1 : 1 ≤ n) (hn : n ≤ l.length) (ha : whole = true → a = root (l.take n)), grown n l.length whole a (grow l n whole) = (root (l.take n), root l, true)) ?_ l
  intro l ih n whole a h1 hn ha
  by_cases he : n = l.length
  · subst he
    rw [grow_all, List.take_length] at *
    cases whole
    · exact grown_one _ _ _
    · rw [if_pos rfl, grown_whole, ha rfl]
      rfl
  · have h : 2 ≤ l.length := by omega
    have hk := half_ok h
    have hp := half_pos h
    by_cases hi : n ≤ half l.length
    · have ht : (l.take (half l.length)).take n = l.take n := by rw [List.take_take, Nat.min_eq_left hi]
      have e := ih (l.take (half l.length)) (take_lt h) n whole a h1 (by rw [List.length_take]; omega) (by rw [ht]; exact ha)
      rw [List.length_take, Nat.min_eq_left (by omega), ht] at e
      rw [grow_low h he hi, grown_low he h hi, e, root_more h]
    · have e := ih (l.drop (half l.length)) (drop_lt h) (n - half l.length) false a (by omega) (by rw [List.length_drop]; omega) (fun h => by cases h)
      rw [List.length_drop] at e
      rw [grow_high h he hi, grown_high he h hi, e]
      have hln : (l.take n).length = n := by rw [List.length_take]; omega
      have hh := half_same h (by omega) hn
      have e2 : root (l.take n) = nodeH (root (l.take (half l.length))) (root ((l.drop (half l.length)).take (n - half l.length))) := by
        rw [root_more (by rw [hln]; omega), hln, hh, List.take_take, Nat.min_eq_left (by omega), List.drop_take]
      rw [e2, root_more h]

end Go.Proofs.Yteemblfjghnooaa.Tr
