/- Contracts of the specification's digests: turns, the words of a block, a block, and the whole, as plain functions of natural numbers. -/
import Derived.Test.YthcmkpdmdkpebaaSha
namespace Go.Proofs.Ythcmkpdmdkpebaa.Sha
open Go.RowKit Go.Proofs.Ythcmkpdmdkpebaa.Mem Go.Proofs.Ythcmkpdmdkpebaa.Laws Go.Proofs.Ythcmkpdmdkpebaa.Bytes
set_option linter.unusedVariables false
set_option linter.unusedSimpArgs false

theorem info3 : (Try.prog.info? 3).map (fun i => (i.zero, i.size, i.bytes)) = some (some (.int .i64 0), 1, 8) := by kernel_rfl

/-- a word turned right by n -/
def turn (x n : Nat) : Nat := (x / 2 ^ n ||| x * 2 ^ (32 - n)) % 4294967296

theorem wraps62 (n : Int) (h0 : 0 ≤ n) (h1 : n < 2 ^ 63) : IntKind.i64.wrap n = n := by rw [IntKind.wrap_i64]; omega

theorem or_nat {a b : Nat} (ha : a < 2 ^ 63) (hb : b < 2 ^ 63) : bits .or .i64 (a : Int) (b : Int) = ((a ||| b : Nat) : Int) := (bits_nat .i64 63 (by decide) wraps62 a b ha hb).2
theorem and_nat {a b : Nat} (ha : a < 2 ^ 63) (hb : b < 2 ^ 63) : bits .and .i64 (a : Int) (b : Int) = ((a &&& b : Nat) : Int) := (bits_nat .i64 63 (by decide) wraps62 a b ha hb).1
theorem xor_nat {a b : Nat} (ha : a < 2 ^ 63) (hb : b < 2 ^ 63) : bits .xor .i64 (a : Int) (b : Int) = ((a ^^^ b : Nat) : Int) := by
  have ha' : a % 2 ^ 64 = a := Nat.mod_eq_of_lt (by omega)
  have hb' : b % 2 ^ 64 = b := Nat.mod_eq_of_lt (by omega)
  have e : bits .xor .i64 (a : Int) (b : Int) = IntKind.i64.wrap (((BitVec.ofInt 64 (a : Int) ^^^ BitVec.ofInt 64 (b : Int)).toNat : Nat) : Int) := rfl
  rw [e, BitVec.ofInt_natCast, BitVec.ofInt_natCast, BitVec.toNat_xor, BitVec.toNat_ofNat, BitVec.toNat_ofNat, ha', hb']
  exact wraps62 _ (Int.natCast_nonneg _) (by have := Nat.xor_lt_two_pow ha hb; omega)
theorem mask_nat {a : Nat} (ha : a < 2 ^ 63) : bits .and .i64 (a : Int) 4294967295 = ((a % 4294967296 : Nat) : Int) := by
  have h := and_nat (b := 4294967295) ha (by decide)
  have e : ((4294967295 : Nat) : Int) = 4294967295 := rfl
  rw [e] at h
  rw [h, show (4294967295 : Nat) = 2 ^ 32 - 1 by decide, Nat.and_two_pow_sub_one_eq_mod]

theorem turn_eq (x n : Nat) (hx : x < 4294967296) (hn1 : 1 ≤ n) (hn2 : n ≤ 31) :
    bits .and .i64 (bits .or .i64 ((x : Int) / 2 ^ n) (wrap64 ((x : Int) * 2 ^ (32 - n)))) 4294967295 = ((turn x n : Nat) : Int) := by
  have hp : (2 : Nat) ^ (32 - n) ≤ 2 ^ 31 := Nat.pow_le_pow_right (by decide) (by omega)
  have hxp : x * 2 ^ (32 - n) ≤ 4294967295 * 2 ^ 31 := Nat.mul_le_mul (by omega) hp
  have e1 : (x : Int) / 2 ^ n = ((x / 2 ^ n : Nat) : Int) := by push_cast; rfl
  have e2 : (x : Int) * 2 ^ (32 - n) = ((x * 2 ^ (32 - n) : Nat) : Int) := by push_cast; rfl
  have hd : x / 2 ^ n ≤ x := Nat.div_le_self _ _
  rw [e2, IntWalk.wrap64_in _ (by omega), e1, or_nat (by omega) (by omega), mask_nat (Nat.or_lt_two_pow (by omega) (by omega))]
  rfl

theorem turn_lt (x n : Nat) : turn x n < 4294967296 := Nat.mod_lt _ (by decide)

/-- natural numbers as cells -/
def ns (l : List Nat) : List Value := l.map fun n : Nat => Value.int .i64 (n : Int)
theorem ns_len (l : List Nat) : (ns l).length = l.length := by simp [ns]
theorem ns_app (l r : List Nat) : ns (l ++ r) = ns l ++ ns r := by simp [ns]
theorem ns_one (l : List Nat) : ∀ u ∈ ns l, u.oneCell' = true := by
  intro u hu
  obtain ⟨_, _, rfl⟩ := List.mem_map.1 hu
  rfl

theorem Own.emptyN (w : World) (lo : Nat) (h : lo ≤ w.heap.size) : Own (w.alloc (.cells #[] 3)) lo (w.alloc (.cells #[] 3)).heap.size 3 (.slice (some ⟨w.heap.size, 0, none⟩) 0 0) (ns []) :=
  Own.of (World.ownsRow_lit w #[] 0 h (Nat.zero_le _) rfl)

/-- the byte at j, and the word of the four bytes from 4 i on -/
def nb (ys : List Int) (j : Nat) : Nat := (ys.getD j 0).toNat
def wd (ys : List Int) (i : Nat) : Nat := ((nb ys (4 * i) * 16777216 ||| nb ys (4 * i + 1) * 65536) ||| nb ys (4 * i + 2) * 256) ||| nb ys (4 * i + 3)

theorem nb_lt {ys : List Int} (h : Byt ys) (j : Nat) : nb ys j < 256 := by
  unfold nb
  by_cases hj : j < ys.length
  · have := h (ys[j]) (List.getElem_mem hj)
    simp [List.getD, hj]
    omega
  · simp [List.getD, show ys.length ≤ j by omega]
theorem wd_bits (a b c d : Nat) (ha : a < 256) (hb : b < 256) (hc : c < 256) (hd : d < 256) :
    bits .or .i64 (bits .or .i64 (bits .or .i64 ((a : Int) * 16777216) ((b : Int) * 65536)) ((c : Int) * 256)) (d : Int) = ((((a * 16777216 ||| b * 65536) ||| c * 256) ||| d : Nat) : Int) := by
  have e1 : (a : Int) * 16777216 = ((a * 16777216 : Nat) : Int) := by omega
  have e2 : (b : Int) * 65536 = ((b * 65536 : Nat) : Int) := by omega
  have e3 : (c : Int) * 256 = ((c * 256 : Nat) : Int) := by omega
  have l1 : a * 16777216 ||| b * 65536 < 2 ^ 32 := Nat.or_lt_two_pow (by omega) (by omega)
  have l2 : (a * 16777216 ||| b * 65536) ||| c * 256 < 2 ^ 32 := Nat.or_lt_two_pow l1 (by omega)
  rw [e1, e2, e3, or_nat (by omega) (by omega), or_nat (by omega) (by omega), or_nat (by omega) (by omega)]

theorem wd_lt {ys : List Int} (h : Byt ys) (i : Nat) : wd ys i < 4294967296 := by
  unfold wd
  have h0 := nb_lt h (4 * i)
  have h1 := nb_lt h (4 * i + 1)
  have h2 := nb_lt h (4 * i + 2)
  have h3 := nb_lt h (4 * i + 3)
  have l1 : nb ys (4 * i) * 16777216 ||| nb ys (4 * i + 1) * 65536 < 2 ^ 32 := Nat.or_lt_two_pow (by omega) (by omega)
  have l2 := Nat.or_lt_two_pow l1 (show nb ys (4 * i + 2) * 256 < 2 ^ 32 by omega)
  exact Nat.or_lt_two_pow l2 (by omega)

theorem byte_cell {w : World} {ys : List Int} {b off : Nat} (hby : Byt ys) (h : ∀ j, j < ys.length → w.cell? ⟨b, off + j, none⟩ = (bs ys)[j]?) (j : Nat) (hj : j < ys.length) : w.cell? ⟨b, off + j, none⟩ = some (.int .u8 (nb ys j : Nat)) := by
  rw [h j hj, bs_get]
  have hb := hby (ys[j]) (List.getElem_mem hj)
  simp [nb, List.getD, hj]
  omega

def s0w (x : Nat) : Nat := (turn x 7 ^^^ turn x 18) ^^^ x / 8
def s1w (x : Nat) : Nat := (turn x 17 ^^^ turn x 19) ^^^ x / 1024
/-- the next word behind 16 or more -/
def nxt (l : List Nat) : Nat := (l.getD (l.length - 16) 0 + s0w (l.getD (l.length - 15) 0) + l.getD (l.length - 7) 0 + s1w (l.getD (l.length - 2) 0)) % 4294967296
def ext : Nat → List Nat → List Nat
  | 0, l => l
  | n + 1, l => ext n (l ++ [nxt l])
/-- the 64 words of a block -/
def words (ys : List Int) : List Nat := ext 48 ((List.range 16).map (wd ys))

theorem s0w_lt {x : Nat} (h : x < 4294967296) : s0w x < 4294967296 := by
  unfold s0w
  have h1 : turn x 7 ^^^ turn x 18 < 2 ^ 32 := Nat.xor_lt_two_pow (turn_lt _ _) (turn_lt _ _)
  exact Nat.xor_lt_two_pow h1 (by omega)
theorem s1w_lt {x : Nat} (h : x < 4294967296) : s1w x < 4294967296 := by
  unfold s1w
  have h1 : turn x 17 ^^^ turn x 19 < 2 ^ 32 := Nat.xor_lt_two_pow (turn_lt _ _) (turn_lt _ _)
  exact Nat.xor_lt_two_pow h1 (by omega)
theorem s0w_bits {x : Nat} (h : x < 4294967296) : bits .xor .i64 (bits .xor .i64 ((turn x 7 : Nat) : Int) ((turn x 18 : Nat) : Int)) ((x : Int) / 8) = ((s0w x : Nat) : Int) := by
  have t1 := turn_lt x 7
  have t2 := turn_lt x 18
  have h1 : turn x 7 ^^^ turn x 18 < 2 ^ 32 := Nat.xor_lt_two_pow t1 t2
  have e : (x : Int) / 8 = ((x / 8 : Nat) : Int) := by omega
  rw [e, xor_nat (by omega) (by omega), xor_nat (by omega) (by omega)]
  rfl
theorem s1w_bits {x : Nat} (h : x < 4294967296) : bits .xor .i64 (bits .xor .i64 ((turn x 17 : Nat) : Int) ((turn x 19 : Nat) : Int)) ((x : Int) / 1024) = ((s1w x : Nat) : Int) := by
  have t1 := turn_lt x 17
  have t2 := turn_lt x 19
  have h1 : turn x 17 ^^^ turn x 19 < 2 ^ 32 := Nat.xor_lt_two_pow t1 t2
  have e : (x : Int) / 1024 = ((x / 1024 : Nat) : Int) := by omega
  rw [e, xor_nat (by omega) (by omega), xor_nat (by omega) (by omega)]
  rfl

theorem Own.form {w : World} {lo hi : Nat} {e : TypeId} {v : Value} {cs : List Value} (h : Own w lo hi e v cs) (hp : 0 < cs.length) :
    ∃ g cap, v = .slice (some ⟨g, 0, none⟩) cs.length cap ∧ lo ≤ g ∧ g < hi ∧ cs.length ≤ cap ∧ ∀ j, j < cs.length → w.cell? ⟨g, j, none⟩ = cs[j]? := by
  have hsl := h.sl
  obtain ⟨⟨h1, h2⟩, h3⟩ := h
  rcases h2 with ⟨rfl, h0⟩ | ⟨g, cap, cur, rfl, hb, hg, hnc, hcm, hcs, ht⟩
  · omega
  · refine ⟨g, cap, rfl, hb, h3 g rfl, hnc, ?_⟩
    obtain ⟨ao, cap', he, _, _, hr⟩ := hsl
    obtain ⟨b, off, hao, hcell⟩ := hr hp
    simp only [Value.slice.injEq] at he
    rw [← he.1] at hao
    simp only [Option.some.injEq, Addr.mk.injEq, and_true] at hao
    obtain ⟨rfl, rfl⟩ := hao
    intro j hj
    have := hcell j hj
    rw [Nat.zero_add] at this
    exact this
theorem ns_cell {w : World} {g : Nat} {L : List Nat} (h : ∀ j, j < (ns L).length → w.cell? ⟨g, j, none⟩ = (ns L)[j]?) (j : Nat) (hj : j < L.length) : w.cell? ⟨g, j, none⟩ = some (.int .i64 ((L.getD j 0 : Nat) : Int)) := by
  rw [h j (by rw [ns_len]; exact hj)]
  simp [ns, List.getD, hj]
theorem getD_lt {L : List Nat} (h : ∀ x ∈ L, x < 4294967296) (j : Nat) : L.getD j 0 < 4294967296 := by
  by_cases hj : j < L.length
  · simp [List.getD, hj]; exact h _ (List.getElem_mem hj)
  · simp [List.getD, show L.length ≤ j by omega]

theorem Sl.oneD (w : World) (u : Value) (t : TypeId) : Sl ((w.alloc (.cells #[u] t)).drew) (.slice (some ⟨w.heap.size, 0, none⟩) 1 1) [u] := Sl.one w u t
theorem one_int (x : Int) : ∀ u ∈ [Value.int .i64 x], u.oneCell' = true := by
  intro u hu
  rw [List.mem_singleton] at hu
  rw [hu]
  rfl

end Go.Proofs.Ythcmkpdmdkpebaa.Sha
