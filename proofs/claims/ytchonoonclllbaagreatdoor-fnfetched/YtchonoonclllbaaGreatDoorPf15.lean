/- Texts in one: Ed1, Sr6, Mi4. -/
import Derived.Test.YtchonoonclllbaaGreatDoorPf14
namespace Go.Proofs.YtchonoonclllbaaGreatDoor.Ed
open Go.RowKit Go.Proofs.YtchonoonclllbaaGreatDoor.Mem Go.Proofs.YtchonoonclllbaaGreatDoor.Laws Go.Proofs.YtchonoonclllbaaGreatDoor.Sha Go.Proofs.YtchonoonclllbaaGreatDoor.Tr
set_option linter.unusedVariables false
set_option linter.unusedSimpArgs false
def top (n : Nat) : Nat := half (n + 1)
theorem top_ok {n : Nat} (h : 1 ≤ n) : Pow (top n) ∧ top n ≤ n ∧ n < 2 * top n := by
 obtain ⟨a, b, c⟩ := half_ok (n := n + 1) (by omega)
 exact ⟨a, by unfold top; omega, by unfold top; omega⟩
theorem top_pos {n : Nat} (h : 1 ≤ n) : 1 ≤ top n := by have := (top_ok h).2.2; omega
def edgeF : Nat → List ByteArray → List ByteArray
 | 0, _ => []
 | f + 1, l => if 1 ≤ l.length then root (l.take (top l.length)) :: edgeF f (l.drop (top l.length)) else []
theorem dropT_lt {l : List ByteArray} (h : 1 ≤ l.length) : (l.drop (top l.length)).length < l.length := by
 rw [List.length_drop]; have := top_pos h; omega
theorem edgeF_any : ∀ (f g : Nat) (l : List ByteArray), l.length < f → l.length < g → edgeF f l = edgeF g l := by
 intro f
 induction f with
 | zero => intro g l hf; omega
 | succ f ih =>
  intro g l hf hg
  cases g with
  | zero => omega
  | succ g =>
   by_cases h : 1 ≤ l.length
   ·
    have h1 := dropT_lt h
    rw [edgeF, edgeF, if_pos h, if_pos h, ih g (l.drop (top l.length)) (by omega) (by omega)]
   ·
    rw [edgeF, edgeF, if_neg h, if_neg h]
def edge (l : List ByteArray) : List ByteArray := edgeF (l.length + 1) l
theorem edge_nil : edge [] = [] := by unfold edge; rw [edgeF]; simp
theorem edge_some {l : List ByteArray} (h : 1 ≤ l.length) : edge l = root (l.take (top l.length)) :: edge (l.drop (top l.length)) := by
 have h1 := dropT_lt h
 unfold edge
 rw [edgeF, if_pos h, edgeF_any l.length ((l.drop (top l.length)).length + 1) (l.drop (top l.length)) (by omega) (by omega)]
def eroot : List ByteArray → ByteArray
 | [] => Plain.txt (digest [])
 | [h] => h
 | h :: g :: r => nodeH h (eroot (g :: r))
theorem eroot_cons {h : ByteArray} {r : List ByteArray} (hr : r ≠ []) : eroot (h :: r) = nodeH h (eroot r) := by
 cases r with
 | nil => exact absurd rfl hr
 | cons g r => rfl
theorem edge_ne {l : List ByteArray} (h : 1 ≤ l.length) : edge l ≠ [] := by rw [edge_some h]; simp
theorem eroot_edge (l : List ByteArray) : eroot (edge l) = root l := by
 refine lenRec (P := fun l => eroot (edge l) = root l) ?_ l
 intro l ih
 by_cases h : 1 ≤ l.length
 ·
  obtain ⟨hp, h1, h2⟩ := top_ok h
  have hpos := top_pos h
  rw [edge_some h]
  by_cases he : top l.length = l.length
  ·
   rw [he, List.take_length, List.drop_length, edge_nil]
   rfl
  ·
   have hd : 1 ≤ (l.drop (top l.length)).length := by rw [List.length_drop]; omega
   have h3 : 2 ≤ l.length := by omega
   rw [eroot_cons (edge_ne hd), ih (l.drop (top l.length)) (dropT_lt h), root_more h3]
   obtain ⟨a, b, c⟩ := half_ok h3
   rw [pow_one a hp b c (by omega) (by omega)]
 ·
  obtain rfl : l = [] := List.eq_nil_of_length_eq_zero (by omega)
  rw [edge_nil, root_nil]
  rfl
def carryF : Nat → Nat → List ByteArray → ByteArray → List ByteArray
 | 0, _, _, _ => []
 | f + 1, n, hs, h => if n % 2 = 1 then carryF f (n / 2) hs.dropLast (nodeH (hs.getLastD ⟨#[]⟩) h) else hs ++ [h]
theorem carryF_any : ∀ (f g n : Nat) (hs : List ByteArray) (h : ByteArray), n < f → n < g → carryF f n hs h = carryF g n hs h := by
 intro f
 induction f with
 | zero => intro g n hs h hf; omega
 | succ f ih =>
  intro g n hs h hf hg
  cases g with
  | zero => omega
  | succ g =>
   by_cases h0 : n % 2 = 1
   ·
    rw [carryF, carryF, if_pos h0, if_pos h0, ih g (n / 2) _ _ (by omega) (by omega)]
   ·
    rw [carryF, carryF, if_neg h0, if_neg h0]
def carry (n : Nat) (hs : List ByteArray) (h : ByteArray) : List ByteArray := carryF (n + 1) n hs h
theorem carry_if (n : Nat) (hs : List ByteArray) (h : ByteArray) : carry n hs h = if n % 2 = 1 then carry (n / 2) hs.dropLast (nodeH (hs.getLastD ⟨#[]⟩) h) else hs ++ [h] := by
 unfold carry
 by_cases h0 : n % 2 = 1
 ·
  rw [carryF, if_pos h0, if_pos h0, carryF_any n (n / 2 + 1) (n / 2) _ _ (by omega) (by omega)]
 ·
  rw [carryF, if_neg h0, if_neg h0]
theorem carry_even {n : Nat} (h0 : ¬ n % 2 = 1) (hs : List ByteArray) (h : ByteArray) : carry n hs h = hs ++ [h] := by rw [carry_if, if_neg h0]
theorem carry_odd {n : Nat} (h0 : n % 2 = 1) (hs : List ByteArray) (g h : ByteArray) : carry n (hs ++ [g]) h = carry (n / 2) hs (nodeH g h) := by
 rw [carry_if, if_pos h0]; simp
theorem pow_half (j : Nat) : half (2 ^ (j + 1)) = 2 ^ j := by
 have h1 : 1 ≤ 2 ^ j := Nat.one_le_two_pow
 have e : 2 ^ (j + 1) = 2 * 2 ^ j := by rw [Nat.pow_succ]; omega
 obtain ⟨a, b, c⟩ := half_ok (n := 2 ^ (j + 1)) (by omega)
 exact pow_one a ⟨j, rfl⟩ b c (by omega) (by omega)
theorem root_two {u t : List ByteArray} {j : Nat} (hu : u.length = 2 ^ j) (ht : t.length = 2 ^ j) : root (u ++ t) = nodeH (root u) (root t) := by
 have h1 : 1 ≤ 2 ^ j := Nat.one_le_two_pow
 have e : 2 ^ (j + 1) = 2 * 2 ^ j := by rw [Nat.pow_succ]; omega
 have hl : (u ++ t).length = 2 ^ (j + 1) := by rw [List.length_append]; omega
 rw [root_more (by omega), hl, pow_half, ← hu, List.take_left, List.drop_left]
theorem top_pow (j : Nat) : top (2 ^ j) = 2 ^ j := by
 have h1 : 1 ≤ 2 ^ j := Nat.one_le_two_pow
 obtain ⟨a, b, c⟩ := top_ok h1
 exact pow_one (n := 2 ^ j + 1) a ⟨j, rfl⟩ (by omega) (by omega) (by omega) (by omega)
theorem edge_pow {t : List ByteArray} {j : Nat} (ht : t.length = 2 ^ j) : edge t = [root t] := by
 have h1 : 1 ≤ 2 ^ j := Nat.one_le_two_pow
 rw [edge_some (by omega), ht, top_pow, ← ht, List.take_length, List.drop_length, edge_nil]
theorem edge_snoc {j : Nat} {t : List ByteArray} (ht : t.length = 2 ^ j) (l : List ByteArray) : ∀ (hl : 2 ^ (j + 1) ∣ l.length), edge (l ++ t) = edge l ++ [root t] := by
 refine lenRec (P := fun l => ∀ (hl : 2 ^ (j + 1) ∣ l.length), edge (l ++ t) = edge l ++ [root t]) ?_ l
 intro l ihl hl
 have h1 : 1 ≤ 2 ^ j := Nat.one_le_two_pow
 have e : 2 ^ (j + 1) = 2 * 2 ^ j := by rw [Nat.pow_succ]; omega
 by_cases h : 1 ≤ l.length
 ·
  obtain ⟨⟨d, hp⟩, a, b⟩ := top_ok h
  have hpos := top_pos h
  have hle : 2 ^ (j + 1) ≤ l.length := Nat.le_of_dvd (by omega) hl
  have hjd : j + 1 ≤ d := by
   have h4 : 2 ^ (j + 1) < 2 ^ (d + 1) := by rw [Nat.pow_succ 2 d]; omega
   have := (Nat.pow_lt_pow_iff_right (by omega : 1 < 2)).1 h4
   omega
  have hdvd : 2 ^ (j + 1) ∣ top l.length := by rw [hp]; exact Nat.pow_dvd_pow 2 hjd
  have hdrop : 2 ^ (j + 1) ∣ (l.drop (top l.length)).length := by rw [List.length_drop]; exact Nat.dvd_sub hl hdvd
  have hlt : l.length + 2 ^ j < 2 * top l.length := by
   have h5 : 2 ^ (j + 1) ∣ 2 * top l.length - l.length := Nat.dvd_sub (Nat.dvd_trans hdvd (Nat.dvd_mul_left _ _)) hl
   have h6 := Nat.le_of_dvd (by omega) h5
   omega
  have hlen : (l ++ t).length = l.length + 2 ^ j := by rw [List.length_append, ht]
  have htop : top (l ++ t).length = top l.length := by
   obtain ⟨a', b', c'⟩ := top_ok (n := (l ++ t).length) (by omega)
   exact pow_one (n := (l ++ t).length + 1) a' ⟨d, hp⟩ (by omega) (by omega) (by omega) (by omega)
  have ih := ihl (l.drop (top l.length)) (dropT_lt h) hdrop
  rw [edge_some (l := l ++ t) (by omega), htop, List.take_append_of_le_length a, List.drop_append_of_le_length a, ih, edge_some h]
  rfl
 ·
  obtain rfl : l = [] := List.eq_nil_of_length_eq_zero (by omega)
  rw [List.nil_append, edge_pow ht, edge_nil]
  rfl
theorem carry_edge (n : Nat) : ∀ (j : Nat) (l t : List ByteArray), l.length = n * 2 ^ j → t.length = 2 ^ j → carry n (edge l) (root t) = edge (l ++ t) := by
 refine natRec (P := fun n => ∀ (j : Nat) (l t : List ByteArray), l.length = n * 2 ^ j → t.length = 2 ^ j → carry n (edge l) (root t) = edge (l ++ t)) ?_ n
 intro n ihn j l t hl ht
 have h1 : 1 ≤ 2 ^ j := Nat.one_le_two_pow
 have e : 2 ^ (j + 1) = 2 * 2 ^ j := by rw [Nat.pow_succ]; omega
 by_cases hn : n % 2 = 1
 ·
  have hm : n * 2 ^ j = (n / 2) * 2 ^ (j + 1) + 2 ^ j := by
   have : n = 2 * (n / 2) + 1 := by omega
   generalize n / 2 = m at this
   rw [this, e, Nat.add_mul, Nat.one_mul, Nat.mul_comm 2 m, Nat.mul_assoc]
  have h2 : (l.take ((n / 2) * 2 ^ (j + 1))).length = (n / 2) * 2 ^ (j + 1) := by rw [List.length_take]; omega
  have h3 : (l.drop ((n / 2) * 2 ^ (j + 1))).length = 2 ^ j := by rw [List.length_drop]; omega
  have h4 : edge l = edge (l.take ((n / 2) * 2 ^ (j + 1))) ++ [root (l.drop ((n / 2) * 2 ^ (j + 1)))] := by
   have := edge_snoc h3 (l.take ((n / 2) * 2 ^ (j + 1))) (by rw [h2]; exact Nat.dvd_mul_left _ _)
   rwa [List.take_append_drop] at this
  rw [h4, carry_odd hn, ← root_two h3 ht, ihn (n / 2) (by omega) (j + 1) _ (l.drop ((n / 2) * 2 ^ (j + 1)) ++ t) h2 (by rw [List.length_append]; omega), ← List.append_assoc, List.take_append_drop]
 ·
  have hm : l.length = (n / 2) * 2 ^ (j + 1) := by
   have : n = 2 * (n / 2) := by omega
   generalize n / 2 = m at this
   rw [hl, this, e, Nat.mul_comm 2 m, Nat.mul_assoc]
  rw [carry_even hn, edge_snoc ht l (by rw [hm]; exact Nat.dvd_mul_left _ _)]
theorem carry_one (l : List ByteArray) (s : ByteArray) : carry l.length (edge l) (leafH s) = edge (l ++ [s]) := by
 rw [← root_one]
 exact carry_edge l.length 0 l [s] (by simp) (by simp)
def popcF : Nat → Nat → Nat
 | 0, _ => 0
 | f + 1, n => if n = 0 then 0 else n % 2 + popcF f (n / 2)
theorem popcF_any : ∀ (f g n : Nat), n < f → n < g → popcF f n = popcF g n := by
 intro f
 induction f with
 | zero => intro g n hf; omega
 | succ f ih =>
  intro g n hf hg
  cases g with
  | zero => omega
  | succ g =>
   by_cases h0 : n = 0
   ·
    rw [popcF, popcF, if_pos h0, if_pos h0]
   ·
    rw [popcF, popcF, if_neg h0, if_neg h0, ih g (n / 2) (by omega) (by omega)]
def popc (n : Nat) : Nat := popcF (n + 1) n
theorem popc_zero : popc 0 = 0 := rfl
theorem popc_step {n : Nat} (h : n ≠ 0) : popc n = n % 2 + popc (n / 2) := by
 unfold popc
 rw [popcF, if_neg h, popcF_any n (n / 2 + 1) (n / 2) (by omega) (by omega)]
theorem carry_len (n : Nat) : ∀ (hs : List ByteArray) (h : ByteArray), hs.length = popc n → (carry n hs h).length = popc (n + 1) := by
 refine natRec (P := fun n => ∀ (hs : List ByteArray) (h : ByteArray), hs.length = popc n → (carry n hs h).length = popc (n + 1)) ?_ n
 intro n ih hs h hl
 by_cases hn : n % 2 = 1
 ·
  rw [popc_step (by omega), hn] at hl
  rcases List.eq_nil_or_concat hs with rfl | ⟨q, g, rfl⟩
  ·
   simp at hl
   omega
  ·
   rw [List.concat_eq_append] at *
   have hq : q.length = popc (n / 2) := by simp at hl; omega
   rw [carry_odd hn, ih (n / 2) (by omega) q _ hq, popc_step (n := n + 1) (by omega), show (n + 1) % 2 = 0 by omega, show (n + 1) / 2 = n / 2 + 1 by omega]
   omega
 ·
  rw [carry_even hn, List.length_append, hl, popc_step (n := n + 1) (by omega), show (n + 1) % 2 = 1 by omega, show (n + 1) / 2 = n / 2 by omega]
  by_cases h0 : n = 0
  ·
   subst h0; simp [popc_zero]
  ·
   rw [popc_step h0, show n % 2 = 0 by omega]; simp; omega
theorem carry_sizes (n : Nat) : ∀ (hs : List ByteArray) (h : ByteArray), (∀ s ∈ hs, s.size = 32) → h.size = 32 → ∀ s ∈ carry n hs h, s.size = 32 := by
 refine natRec (P := fun n => ∀ (hs : List ByteArray) (h : ByteArray), (∀ s ∈ hs, s.size = 32) → h.size = 32 → ∀ s ∈ carry n hs h, s.size = 32) ?_ n
 intro n ih hs h hl h32
 by_cases hn : n % 2 = 1
 ·
  rw [carry_if, if_pos hn]
  exact ih (n / 2) (by omega) _ _ (fun s hs' => hl s (List.dropLast_subset _ hs')) (nodeH_size _ _)
 ·
  rw [carry_even hn]
  intro s hs'
  rcases List.mem_append.1 hs' with h1 | h1
  ·
   exact hl s h1
  ·
   simp at h1; rw [h1]; exact h32
theorem edge_sizes (l : List ByteArray) : ∀ s ∈ edge l, s.size = 32 := by
 refine lenRec (P := fun l => ∀ s ∈ edge l, s.size = 32) ?_ l
 intro l ih
 by_cases h : 1 ≤ l.length
 ·
  have hp := top_pos h
  rw [edge_some h]
  intro s hs
  rcases List.mem_cons.1 hs with rfl | hs
  ·
   exact root_size _
  ·
   exact ih _ (dropT_lt h) s hs
 ·
  obtain rfl : l = [] := List.eq_nil_of_length_eq_zero (by omega)
  rw [edge_nil]; intro s hs; cases hs
theorem edge_lenN : ∀ (N : Nat) (l : List ByteArray), l.length = N → (edge l).length = popc N := by
 intro N
 induction N with
 | zero =>
  intro l h
  obtain rfl : l = [] := List.eq_nil_of_length_eq_zero h
  rw [edge_nil, popc_zero]; rfl
 | succ n ih =>
  intro l h
  rcases List.eq_nil_or_concat l with rfl | ⟨q, s, rfl⟩
  ·
   cases h
  ·
   rw [List.concat_eq_append] at *
   have hq : q.length = n := by simp at h; exact h
   rw [← carry_one, hq, carry_len _ _ _ (ih q hq)]
theorem edge_len (l : List ByteArray) : (edge l).length = popc l.length := edge_lenN _ l rfl
theorem popc_le : ∀ n : Fin 256, popc n.val ≤ 8 := by decide +kernel
def okE (n : Int) (hs : List ByteArray) : Bool := decide (0 ≤ n ∧ n ≤ 200) && decide (hs.length = popc n.toNat) && hs.all (fun s => decide (s.size = 32))
def addE (n : Int) (hs : List ByteArray) (s : ByteArray) : Int × List ByteArray × Bool :=
 if okE n hs = true ∧ n ≠ 200 then (n + 1, carry n.toNat hs (leafH s), true) else (n, hs, false)
def rootE (n : Int) (hs : List ByteArray) : ByteArray := if okE n hs = true then eroot hs else ⟨#[]⟩
def goE (n : Int) (hs : List ByteArray) : List ByteArray → Option (Int × List ByteArray)
 | [] => some (n, hs)
 | s :: r => if (addE n hs s).2.2 = true then goE (addE n hs s).1 (addE n hs s).2.1 r else none
def allE (n : Int) (hs l : List ByteArray) : Int × List ByteArray × Bool := match goE n hs l with
 | some (m, r) => (m, r, true)
 | none => (n, hs, false)
theorem okE_iff {n : Int} {hs : List ByteArray} : okE n hs = true ↔ (0 ≤ n ∧ n ≤ 200) ∧ hs.length = popc n.toNat ∧ ∀ s ∈ hs, s.size = 32 := by
 unfold okE
 simp [and_assoc]
theorem okE_edge {l : List ByteArray} (h : l.length ≤ 200) : okE (l.length : Int) (edge l) = true :=
 okE_iff.2 ⟨by omega, by rw [edge_len, Int.toNat_natCast], edge_sizes l⟩
theorem addE_yes {n : Int} {hs : List ByteArray} (h : okE n hs = true) (h2 : n ≠ 200) (s : ByteArray) : addE n hs s = (n + 1, carry n.toNat hs (leafH s), true) := by
 unfold addE; rw [if_pos ⟨h, h2⟩]
theorem addE_no {n : Int} {hs : List ByteArray} (h : ¬ (okE n hs = true ∧ n ≠ 200)) (s : ByteArray) : addE n hs s = (n, hs, false) := by
 unfold addE; rw [if_neg h]
theorem addE_ok {n : Int} {hs : List ByteArray} (h : okE n hs = true) (h2 : n ≠ 200) (s : ByteArray) : okE (n + 1) (carry n.toNat hs (leafH s)) = true := by
 obtain ⟨a, b, c⟩ := okE_iff.1 h
 refine okE_iff.2 ⟨by omega, ?_, carry_sizes _ _ _ c (leafH_size s)⟩
 rw [carry_len _ _ _ b, show (n + 1).toNat = n.toNat + 1 by omega]
theorem addE_edge {l : List ByteArray} (h : l.length < 200) (s : ByteArray) : addE (l.length : Int) (edge l) s = (((l ++ [s]).length : Int), edge (l ++ [s]), true) := by
 rw [addE_yes (okE_edge (by omega)) (by omega), Int.toNat_natCast, carry_one, List.length_append]
 rfl
theorem goE_edge : ∀ (r l : List ByteArray), l.length + r.length ≤ 200 → goE (l.length : Int) (edge l) r = some (((l ++ r).length : Int), edge (l ++ r))
 | [], l, _ => by rw [List.append_nil]; rfl
 | s :: r, l, h => by
  have hl : l.length < 200 := by simp at h; omega
  rw [goE, addE_edge hl, if_pos rfl]
  have := goE_edge r (l ++ [s]) (by simp at h ⊢; omega)
  rw [this, List.append_assoc]
  rfl
theorem allE_edge {l r : List ByteArray} (h : l.length + r.length ≤ 200) : allE (l.length : Int) (edge l) r = (((l ++ r).length : Int), edge (l ++ r), true) := by
 unfold allE; rw [goE_edge r l h]
theorem rootE_edge {l : List ByteArray} (h : l.length ≤ 200) : rootE (l.length : Int) (edge l) = root l := by
 unfold rootE; rw [if_pos (okE_edge h), eroot_edge]
end Go.Proofs.YtchonoonclllbaaGreatDoor.Ed
namespace Go.Proofs.YtchonoonclllbaaGreatDoor.Sr
open Go.RowKit Go.Proofs.YtchonoonclllbaaGreatDoor.Mem Go.Proofs.YtchonoonclllbaaGreatDoor.Laws Go.Proofs.YtchonoonclllbaaGreatDoor.Sha Go.Proofs.YtchonoonclllbaaGreatDoor.Tr Go.Proofs.YtchonoonclllbaaGreatDoor.He Go.Proofs.YtchonoonclllbaaGreatDoor.Lg
set_option linter.unusedVariables false
set_option linter.unusedSimpArgs false
def commitQ (st : Sto) (t : List Hd) (h : Hd) (x : List ByteArray) : Sto × Int := if st.b.length + (putC h x).length ≤ 60000 then commit1 st t h x else (st, 1)
def commitP (st : Sto) (t : List Hd) (h : Hd) (x : List ByteArray) : Sto × Int := if storeOk st = true then commitQ st t h x else (st, 1)
theorem putC_yes {h : Hd} {x : List ByteArray} (hk : okH h = true) (h1 : 1 ≤ x.length) (h2 : x.length ≤ 200) : putC h x = put h x := by unfold putC; rw [if_pos ⟨hk, h1, h2⟩]
theorem extend_bad {l x : List ByteArray} {hd h : Hd} {t : List Hd} (hk : ¬ (okH h = true ∧ x.length ≤ 200)) : extend l hd t h x = (l, hd, 1) := by
 refine extend1 (fun q => hk ⟨q.2.1, ?_⟩) t
 have := (okH_parts q.2.1).2.1
 have h2 := q.2.2
 rw [List.length_append] at h2
 omega
theorem commitP_eq {st : Sto} {t : List Hd} {h : Hd} {x : List ByteArray} (hx : 1 ≤ x.length ∨ st.b.length + (put h x).length ≤ 60000) : commitP st t h x = commit st t h x := by
 unfold commitP commitQ commit
 by_cases hk : okH h = true ∧ 1 ≤ x.length ∧ x.length ≤ 200
 ·
  rw [putC_yes hk.1 hk.2.1 hk.2.2]
  by_cases h1 : storeOk st = true
  ·
   by_cases h2 : st.b.length + (put h x).length ≤ 60000
   ·
    simp [h1, h2]
   ·
    simp [h1, h2]
  ·
   simp [h1]
 ·
  have hp : putC h x = [] := by unfold putC; rw [if_neg hk]
  rw [hp]
  by_cases h0 : 1 ≤ x.length
  ·
   have hc : commit1 st t h x = (st, 1) := by
    unfold commit1
    rw [extend_bad (fun q => hk ⟨q.1, h0, q.2⟩), if_neg (by simp)]
   rw [hc]
   simp
  ·
   have h2 : st.b.length + (put h x).length ≤ 60000 := by rcases hx with hx | hx; exact absurd hx h0; exact hx
   have h3 : st.b.length + ([] : List Int).length ≤ 60000 := by simp; omega
   rw [if_pos h3]
   by_cases h1 : storeOk st = true
   ·
    simp [h1, h2]
   ·
    simp [h1]
theorem put_small (h : Hd) (x : List ByteArray) (hx : x.length = 0) : (put h x).length ≤ h.r.size + 24 := by
 have h1 := put_len h x
 have h2 := body_len h x
 obtain rfl : x = [] := List.eq_nil_of_length_eq_zero hx
 have h3 : Puts.tot [] = 0 := rfl
 simp only [List.length_nil] at h2
 omega
theorem commitP_small {st : Sto} {t : List Hd} {h : Hd} {x : List ByteArray} (hb : st.b.length ≤ 50000) (hr : h.r.size ≤ 1000) : commitP st t h x = commit st t h x := by
 refine commitP_eq ?_
 by_cases h0 : 1 ≤ x.length
 ·
  exact Or.inl h0
 ·
  have := put_small h x (by omega)
  exact Or.inr (by omega)
theorem replay_pre (xs : List Int) : ∀ (f a : Nat) (l : List ByteArray) (hd : Hd), l <+: (replayF f xs a l hd).1 := by
 intro f
 induction f with
 | zero => intro a l hd; exact List.prefix_refl _
 | succ f ih2 =>
  intro a l hd
  rw [replayF]
  split
  ·
   split
   ·
    split
    ·
     exact (List.prefix_append _ _).trans (ih2 _ _ _)
    ·
     exact List.prefix_append _ _
   ·
    exact List.prefix_refl _
  ·
   exact List.prefix_refl _
def fin12 (xs : List Int) (T : List ByteArray) (f a : Nat) (l : List ByteArray) (hd : Hd) : Bool := (replayF f xs a l hd).2.2 && decide ((replayF f xs a l hd).1 = T)
theorem fin_end {xs : List Int} {T l : List ByteArray} {f a : Nat} {hd : Hd} (h : ¬ a < xs.length) : fin12 xs T f a l hd = decide (l = T) := by
 unfold fin12
 cases f with
 | zero => exact Bool.true_and _
 | succ f => rw [replayF, if_neg h]; simp
theorem fin_no {xs : List Int} {T l : List ByteArray} {f a : Nat} {hd : Hd} (h : a < xs.length) (hf : xs.length - a ≤ f) (hg : (getC xs (a : Int)).2.2.2 = false) : fin12 xs T f a l hd = false := by
 obtain ⟨f, rfl⟩ : ∃ k, f = k + 1 := ⟨f - 1, by omega⟩
 unfold fin12
 rw [replayF, if_pos h, if_neg (by rw [hg]; simp)]
 simp
theorem fin_far {xs : List Int} {T l : List ByteArray} {f a : Nat} {hd : Hd} (h : a < xs.length) (hf : xs.length - a ≤ f) (hT : ¬ (l ++ (getC xs (a : Int)).2.1) <+: T) : fin12 xs T f a l hd = false := by
 obtain ⟨f, rfl⟩ : ∃ k, f = k + 1 := ⟨f - 1, by omega⟩
 unfold fin12
 rw [replayF, if_pos h]
 split
 ·
  split
  ·
   have hp := replay_pre xs f (getC xs (a : Int)).2.2.1.toNat (l ++ (getC xs (a : Int)).2.1) (getC xs (a : Int)).1
   have hne : ¬ (replayF f xs (getC xs (a : Int)).2.2.1.toNat (l ++ (getC xs (a : Int)).2.1) (getC xs (a : Int)).1).1 = T := fun e => hT (by rw [e] at hp; exact hp)
   simp [hne]
  ·
   simp
 ·
  simp
theorem fin_head {xs : List Int} {T l : List ByteArray} {f a : Nat} {hd : Hd} (h : a < xs.length) (hf : xs.length - a ≤ f) (he : eqH (getC xs (a : Int)).1 (headOf (l ++ (getC xs (a : Int)).2.1)) = false) : fin12 xs T f a l hd = false := by
 obtain ⟨f, rfl⟩ : ∃ k, f = k + 1 := ⟨f - 1, by omega⟩
 unfold fin12
 rw [replayF, if_pos h]
 split
 ·
  rw [if_neg (by rw [he]; simp)]; simp
 ·
  simp
theorem fin_go {xs : List Int} {T l x : List ByteArray} {f a q : Nat} {hd h : Hd} (hlt : a < xs.length) (hf : xs.length - a ≤ f) (hg : getC xs (a : Int) = (h, x, (q : Int), true)) (haq : a < q) (hl : (l ++ x).length ≤ 200) (he : eqH h (headOf (l ++ x)) = true) :
  ∃ f', xs.length - q ≤ f' ∧ fin12 xs T f a l hd = fin12 xs T f' q (l ++ x) h := by
 obtain ⟨f, rfl⟩ : ∃ k, f = k + 1 := ⟨f - 1, by omega⟩
 refine ⟨f, by omega, ?_⟩
 rw [List.length_append] at hl
 unfold fin12
 conv => lhs; rw [replayF, if_pos hlt, hg]
 simp only [Int.toNat_natCast]
 rw [if_pos ⟨trivial, hl⟩, if_pos he]
theorem pre_take {T x : List ByteArray} {m : Nat} (hm : m ≤ T.length) : (T.take m ++ x) <+: T ↔ x <+: T.drop m := by
 conv => lhs; rhs; rw [← List.take_append_drop m T]
 exact List.prefix_append_right_inj _
theorem pre_eq {D x : List ByteArray} (h : x.length ≤ D.length) : x = D.take x.length ↔ x <+: D := by
 constructor
 ·
  intro e; rw [e]; exact List.take_prefix _ _
 ·
  intro e; exact List.prefix_iff_eq_take.1 e
theorem take_more {T x : List ByteArray} {m : Nat} (hm : m ≤ T.length) (hx : x <+: T.drop m) : T.take m ++ x = T.take (m + x.length) ∧ m + x.length ≤ T.length := by
 have e := List.prefix_iff_eq_take.1 hx
 have hl := hx.length_le
 rw [List.length_drop] at hl
 refine ⟨?_, by omega⟩
 rw [List.take_add, ← e]
theorem storeOk_fin (st : Sto) (h1 : logOk st.l st.h = true) (h2 : st.b.length ≤ 60000) (h3 : 0 ≤ st.s ∧ st.s ≤ (st.b.length : Int)) : storeOk st = fin12 st.b st.l st.b.length 0 [] (headOf []) := by
 unfold storeOk fin12 replay
 rw [h1]
 simp [h2, h3.1, h3.2]
theorem storeOk_no (st : Sto) (h : ¬ (logOk st.l st.h = true ∧ st.b.length ≤ 60000 ∧ 0 ≤ st.s ∧ st.s ≤ (st.b.length : Int))) : storeOk st = false := by
 rw [← Bool.not_eq_true]
 intro q
 obtain ⟨a, b, c, d, _⟩ := ok_parts q
 exact h ⟨a, b, c, d⟩
theorem headOf_edge {T : List ByteArray} {m : Nat} (h2 : T.length ≤ 200) (hm : m ≤ T.length) : headOf (T.take m) = ⟨(m : Int), Ed.rootE (m : Int) (Ed.edge (T.take m))⟩ := by
 have hl : (T.take m).length = m := by rw [List.length_take]; omega
 unfold headOf
 rw [if_pos (by omega), hl]
 have := Ed.rootE_edge (l := T.take m) (by omega)
 rw [hl] at this
 rw [this]
end Go.Proofs.YtchonoonclllbaaGreatDoor.Sr
namespace Go.Proofs.YtchonoonclllbaaGreatDoor.Mi
open Go.RowKit Go.Proofs.YtchonoonclllbaaGreatDoor.Mem Go.Proofs.YtchonoonclllbaaGreatDoor.Sha Go.Proofs.YtchonoonclllbaaGreatDoor.Tr Go.Proofs.YtchonoonclllbaaGreatDoor.He Go.Proofs.YtchonoonclllbaaGreatDoor.Lg Go.Proofs.YtchonoonclllbaaGreatDoor.Sr Go.Proofs.YtchonoonclllbaaGreatDoor.Mg
set_option linter.unusedVariables false
theorem okHead14 {l : List ByteArray} (h : l.length ≤ 200) : okH (headOf l) = true := by
 unfold headOf
 rw [if_pos h]
 unfold okH
 have h1 : (root l).size = 32 := root_size l
 simp only [h1]
 simp
 omega
theorem headN {l : List ByteArray} (h : l.length ≤ 200) : (headOf l).n = (l.length : Int) := by unfold headOf; rw [if_pos h]
theorem signed_in14 {t : List Hd} {x : Hd} (h : x ∈ t) : signed t x = true := by
 unfold signed
 rw [List.any_eq_true]
 exact ⟨x, h, (eqH_iff x x).2 rfl⟩
theorem bestF_14 (r : List Hd) : ∀ b : Hd, (bestF b r = b ∨ bestF b r ∈ r) ∧ b.n ≤ (bestF b r).n ∧ ∀ x ∈ r, x.n ≤ (bestF b r).n := by
 induction r with
 | nil => intro b; exact ⟨.inl rfl, Int.le_refl _, fun x hx => (by cases hx)⟩
 | cons q r ih =>
  intro b
  unfold bestF
  split
  ·
   rename_i h
   obtain ⟨h1, h2, h3⟩ := ih q
   refine ⟨.inr ?_, by omega, fun x hx => ?_⟩
   ·
    rcases h1 with h1 | h1
    ·
     rw [h1]; exact List.mem_cons_self ..
    ·
     exact List.mem_cons_of_mem _ h1
   ·
    rcases List.mem_cons.1 hx with rfl | hx
    ·
     exact h2
    ·
     exact h3 x hx
  ·
   rename_i h
   obtain ⟨h1, h2, h3⟩ := ih b
   refine ⟨?_, h2, fun x hx => ?_⟩
   ·
    rcases h1 with h1 | h1
    ·
     exact .inl h1
    ·
     exact .inr (List.mem_cons_of_mem _ h1)
   ·
    rcases List.mem_cons.1 hx with rfl | hx
    ·
     omega
    ·
     exact h3 x hx
theorem best_14 {t : List Hd} (h : 1 ≤ t.length) : best t ∈ t ∧ ∀ x ∈ t, x.n ≤ (best t).n := by
 cases t with
 | nil => simp at h
 | cons b r =>
  obtain ⟨h1, h2, h3⟩ := bestF_14 r b
  refine ⟨?_, fun x hx => ?_⟩
  ·
   show bestF b r ∈ b :: r
   rcases h1 with h1 | h1
   ·
    rw [h1]; exact List.mem_cons_self ..
   ·
    exact List.mem_cons_of_mem _ h1
  ·
   show x.n ≤ (bestF b r).n
   rcases List.mem_cons.1 hx with rfl | hx
   ·
    exact h2
   ·
    exact h3 x hx
theorem open_known (t : List Hd) (xs : List Int) : ∀ (g a : Nat) (st : Sto) (n : Nat), known t st.h = true → known t (openF g t xs a st n).1.h = true := by
 intro g
 induction g with
 | zero => intro a st n h; exact h
 | succ g ih =>
  intro a st n h
  rw [openF]
  split
  ·
   split
   ·
    rename_i hc
    obtain ⟨_, _, c, _, _, _, hs⟩ := commit1_good hc.2
    exact ih _ _ _ (by rw [hs]; exact known_signed c)
   ·
    exact h
  ·
   exact h
theorem new_known (t : List Hd) : known t new12.h = true := by
 unfold known
 have : eqH new12.h (headOf []) = true := (eqH_iff _ _).2 rfl
 rw [this]
 rfl
theorem made_known {t : List Hd} {st : Sto} (h : Made t st) : known t st.h = true := by
 have h1 := open_known t st.b st.b.length 0 new12 0 (new_known t)
 rw [(h.2 st.b.length (Nat.le_refl _)).2.1] at h1
 exact h1
structure D14 (all : List ByteArray) (t : List Hd) (m : Mr) : Prop where
 lo : 0 ≤ m.id
 hi : m.id < 4
 st : Dsq all t 0 m.st
 tab : Tab all t
 a1 : 1 ≤ all.length
 a9 : all.length ≤ 9
 az : ∀ s ∈ all, s.size ≤ 3
 t1 : 1 ≤ t.length
 best : m.b = m.st.h ∨ m.b = He.best t
theorem D14.ok {all : List ByteArray} {t : List Hd} {m : Mr} (h : D14 all t m) : mirrorOk m t = true ∧ m.b.n ≤ (all.length : Int) ∧ (m.b.n = (all.length : Int) → m.st.l.length < all.length → m.b = headOf all) := by
 have hst := h.st
 have hbl := hst.bl
 have hk := logOk_yes hst.made.1.1
 have hln := hst.len
 have h9 := h.a9
 have hb := best_14 h.t1
 obtain ⟨n, hn, hbn⟩ := h.tab.all _ hb.1
 have hsn : m.st.h.n = (m.st.l.length : Int) := by rw [hk.2]; exact headN hk.1
 have hbs : (He.best t).n = (n : Int) := by
  rw [hbn, headN (by rw [List.length_take]; omega), List.length_take]
  omega
 have hkn := made_known hst.made
 refine ⟨ok_join ⟨h.lo, by have := h.hi; omega⟩ (good_ok hst.made.1 (by omega) ⟨hst.lo, hst.hi⟩) ?_ ?_ hkn, ?_, fun e1 e2 => ?_⟩
 ·
  rcases h.best with e | e
  ·
   rw [e, hk.2]; exact okHead14 hk.1
  ·
   rw [e, hbn]; exact okHead14 (by rw [List.length_take]; omega)
 ·
  rcases h.best with e | e
  ·
   rw [e]; exact hkn
  ·
   rw [e]; exact known_signed (signed_in14 hb.1)
 ·
  rcases h.best with e | e
  ·
   rw [e]; omega
  ·
   rw [e]; omega
 ·
  rcases h.best with e | e
  ·
   rw [e] at e1; omega
  ·
   rw [e] at e1 ⊢
   have : n = all.length := by omega
   rw [hbn, this, List.take_length]
theorem pre_all {l m : List ByteArray} (h : l <+: m) : l ++ m.drop l.length = m := by
 obtain ⟨r, rfl⟩ := h
 rw [List.drop_left]
theorem fetched14 {all : List ByteArray} {t : List Hd} {m : Mr} (h : D14 all t m) :
  ∃ full : Sto, commitP new12 t (headOf all) all = (full, 0) ∧ full.l = all ∧ full.h = headOf all ∧ Byt full.b ∧ full.b.length ≤ 10009 ∧ full.s = 0 ∧ mirrorOk ⟨9, full, headOf all⟩ t = true ∧
   gossip ⟨9, full, headOf all⟩ t m.id = [⟨1, 9, m.id, headOf all, 0, []⟩] ∧
   (m.st.l.length = all.length → m.st.l = all ∧ (hear m t ⟨1, 9, m.id, headOf all, 0, []⟩).2 = []) ∧
   (m.st.l.length < all.length → hear m t ⟨1, 9, m.id, headOf all, 0, []⟩ = (⟨m.id, m.st, headOf all⟩, [⟨2, m.id, 9, headOf all, (m.st.l.length : Int), []⟩]) ∧
    (hear ⟨9, full, headOf all⟩ t ⟨2, m.id, 9, headOf all, (m.st.l.length : Int), []⟩).2 = [⟨3, 9, m.id, headOf all, (m.st.l.length : Int), all.drop m.st.l.length⟩] ∧
    (hear ⟨m.id, m.st, headOf all⟩ t ⟨3, 9, m.id, headOf all, (m.st.l.length : Int), all.drop m.st.l.length⟩).1.st.l = all ∧
    (hear ⟨m.id, m.st, headOf all⟩ t ⟨3, 9, m.id, headOf all, (m.st.l.length : Int), all.drop m.st.l.length⟩).1.b = headOf all ∧
    mirrorOk (hear ⟨m.id, m.st, headOf all⟩ t ⟨3, 9, m.id, headOf all, (m.st.l.length : Int), all.drop m.st.l.length⟩).1 t = true) := by
 obtain ⟨hok, hbn, hbt⟩ := h.ok
 obtain ⟨k1, k2, k3, k4, k5⟩ := ok_split hok
 have h1 := h.a1
 have h9 := h.a9
 have hln := h.st.len
 have hbl := h.st.bl
 have hlo := h.lo
 have hhi := h.hi
 have hsg : signed t (headOf all) = true := signed_in14 h.tab.has
 have hn : (headOf all).n = (all.length : Int) := headN (by omega)
 have hr : (headOf all).r.size ≤ 32 := headOf_size all
 have hoH : okH (headOf all) = true := okHead14 (by omega)
 have hpa : (put (headOf all) all).length ≤ 10009 := by
  have e1 := put_len (headOf all) all
  have e2 := body_le9 hr h9 h.az
  omega
 have hc := commit1_of (st := new12) (t := t) (x := all) (logOk_of (l := []) (by simp)) h1 (by rw [show new12.l = [] from rfl, List.nil_append]; omega) (by rw [show new12.l = [] from rfl, List.nil_append]; exact hsg)
 rw [show new12.l = [] from rfl, List.nil_append, show new12.b = [] from rfl, List.nil_append] at hc
 have hbody : (body (headOf all) all).length ≤ 1000000000 := by have := body_le9 hr h9 h.az; omega
 have hgood := good_commit (st := new12) (t := t) (h := headOf all) (x := all) good_new (by rw [hc]) hbody
 rw [hc] at hgood
 simp only at hgood
 have hfok : storeOk ⟨all, headOf all, put (headOf all) all, 0⟩ = true := good_ok hgood (by simp only; omega) ⟨Int.le_refl _, Int.natCast_nonneg _⟩
 have hoo : mirrorOk ⟨9, ⟨all, headOf all, put (headOf all) all, 0⟩, headOf all⟩ t = true := ok_join ⟨by simp only; omega, by simp only; omega⟩ hfok hoH (known_signed hsg) (known_signed hsg)
 have hm1 : msgOk ⟨1, 9, m.id, headOf all, 0, []⟩ = true := by
  unfold msgOk face Mg.kindOk
  simp only [hoH, Bool.and_eq_true, decide_eq_true_eq, Bool.not_eq_true', decide_eq_false_iff_not]
  refine ⟨⟨⟨⟨⟨by decide, by omega⟩, by omega⟩, trivial⟩, by decide⟩, ?_⟩
  simp
 have hh1 : hear m t ⟨1, 9, m.id, headOf all, 0, []⟩ = (better m (headOf all), ask (better m (headOf all)) 9) := by
  unfold hear
  rw [if_pos ⟨hok, hm1, rfl⟩]
  unfold hear1
  simp only [if_true]
  rw [if_pos hsg]
 have han : another m 9 = true := by
  unfold another
  simp only [Bool.and_eq_true, decide_eq_true_eq, Bool.not_eq_true', decide_eq_false_iff_not]
  omega
 refine ⟨⟨all, headOf all, put (headOf all) all, 0⟩, ?_, rfl, rfl, put_byt _ _, hpa, rfl, hoo, ?_, fun he => ?_, fun hlt => ?_⟩
 ·
  rw [commitP_small (by rw [show new12.b = [] from rfl]; simp) (by omega)]
  unfold commit
  rw [if_pos ⟨good_ok good_new (by rw [show new12.b = [] from rfl]; simp) (by rw [show new12.b = [] from rfl]; decide), by rw [show new12.b = [] from rfl]; simp; omega⟩, hc]
  rfl
 ·
  unfold gossip
  rw [if_pos hoo]
  unfold gossip1 another
  rw [if_pos]
  simp only [Bool.and_eq_true, decide_eq_true_eq, Bool.not_eq_true', decide_eq_false_iff_not]
  omega
 ·
  have hal : m.st.l = all := by
   have := pre_all h.st.pre
   rw [he, List.drop_length, List.append_nil] at this
   exact this
  refine ⟨hal, ?_⟩
  rw [hh1]
  simp only
  unfold ask ask1
  split
  ·
   rw [if_neg]
   rw [(better_id m (headOf all)).2.1]
   unfold better
   split
   ·
    simp only; omega
   ·
    omega
  ·
   rfl
 ·
  have hbe : better m (headOf all) = ⟨m.id, m.st, headOf all⟩ := by
   unfold better
   split
   ·
    rfl
   ·
    rename_i h8
    have := hbt (by omega) hlt
    rw [← this]
  have hm2 : msgOk ⟨2, m.id, 9, headOf all, (m.st.l.length : Int), []⟩ = true := by
   unfold msgOk face Mg.kindOk
   simp only [hoH, Bool.and_eq_true, decide_eq_true_eq, Bool.not_eq_true', decide_eq_false_iff_not]
   refine ⟨⟨⟨⟨⟨by omega, by decide⟩, by omega⟩, trivial⟩, by omega⟩, ?_⟩
   simp
   omega
  have hm3 : msgOk ⟨3, 9, m.id, headOf all, (m.st.l.length : Int), all.drop m.st.l.length⟩ = true := by
   unfold msgOk face Mg.kindOk
   simp only [hoH, Bool.and_eq_true, decide_eq_true_eq, Bool.not_eq_true', decide_eq_false_iff_not]
   refine ⟨⟨⟨⟨⟨by decide, by omega⟩, by omega⟩, trivial⟩, by omega⟩, ?_⟩
   simp
   omega
  have hok2 : mirrorOk ⟨m.id, m.st, headOf all⟩ t = true := ok_join k1 k2 hoH (known_signed hsg) k5
  refine ⟨?_, ?_, ?_⟩
  ·
   rw [hh1, hbe]
   unfold ask ask1
   rw [if_pos]
   ·
    simp only
    rw [if_pos (by omega)]
   ·
    exact han
  ·
   unfold hear
   rw [if_pos ⟨hoo, hm2, rfl⟩]
   unfold hear1
   simp only
   rw [if_neg (by decide), if_pos trivial]
   simp only
   unfold answer
   simp only
   rw [hn, Int.toNat_natCast, List.take_length, if_pos ⟨Int.le_refl _, (eqH_iff _ _).2 rfl⟩, Int.toNat_natCast]
  ·
   have hl9 : m.st.l ++ all.drop m.st.l.length = all := pre_all h.st.pre
   have hd1 : 1 ≤ (all.drop m.st.l.length).length := by rw [List.length_drop]; omega
   have hcm := commit1_of (st := m.st) (t := t) (x := all.drop m.st.l.length) (ok_parts k2).1 hd1 (by rw [hl9]; omega) (by rw [hl9]; exact hsg)
   rw [hl9] at hcm
   have hpd : (put (headOf all) (all.drop m.st.l.length)).length ≤ 10009 := by
    have e1 := put_len (headOf all) (all.drop m.st.l.length)
    have e2 := body_le9 (x := all.drop m.st.l.length) hr (by rw [List.length_drop]; omega) (fun s hs => h.az s (List.mem_of_mem_drop hs))
    omega
   have hh3 : hear ⟨m.id, m.st, headOf all⟩ t ⟨3, 9, m.id, headOf all, (m.st.l.length : Int), all.drop m.st.l.length⟩ = (takes ⟨m.id, m.st, headOf all⟩ t ⟨3, 9, m.id, headOf all, (m.st.l.length : Int), all.drop m.st.l.length⟩, []) := by
    unfold hear
    rw [if_pos ⟨hok2, hm3, rfl⟩]
    unfold hear1
    simp only
    rw [if_neg (by decide), if_neg (by decide)]
   have htk := takes_ok (m := ⟨m.id, m.st, headOf all⟩) (w := ⟨3, 9, m.id, headOf all, (m.st.l.length : Int), all.drop m.st.l.length⟩) h.st.made.1.2.2 hok2
   rw [hh3]
   simp only
   have hte : takes ⟨m.id, m.st, headOf all⟩ t ⟨3, 9, m.id, headOf all, (m.st.l.length : Int), all.drop m.st.l.length⟩ = ⟨m.id, ⟨all, headOf all, m.st.b ++ put (headOf all) (all.drop m.st.l.length), m.st.s⟩, headOf all⟩ := by
    have e3 : m.st.b.length ≤ 30027 := by omega
    have hb6 : m.st.b.length + (put (headOf all) (all.drop m.st.l.length)).length ≤ 60000 := Nat.le_trans (Nat.add_le_add e3 hpd) (by decide)
    unfold takes
    simp only
    rw [hcm, if_pos ⟨by first | rfl | trivial, hb6, by first | rfl | trivial⟩]
    unfold better
    simp only
    rw [if_neg (by omega)]
   rw [hte] at htk ⊢
   exact ⟨rfl, rfl, htk.1⟩
end Go.Proofs.YtchonoonclllbaaGreatDoor.Mi
