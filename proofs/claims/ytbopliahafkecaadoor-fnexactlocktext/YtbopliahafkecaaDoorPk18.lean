/- Texts in one: Sha2, Sha3, Sha4, Sha5, Tr1, Tr2, Tr3, Tr4, Tr5. -/
import Derived.Test.YtbopliahafkecaaDoorPk7
import Derived.Test.YtbopliahafkecaaDoorPk14
import Derived.Deep.RegionHeld3
/- Contracts of the specification's digests: turns, the words of a block, a block, and the whole, as plain functions of natural numbers. -/
namespace Go.Proofs.YtbopliahafkecaaDoor.Sha
open Go.RowKit Go.Proofs.YtbopliahafkecaaDoor.Mem Go.Proofs.YtbopliahafkecaaDoor.Laws Go.Proofs.YtbopliahafkecaaDoor.Bytes
set_option linter.unusedVariables false
set_option linter.unusedSimpArgs false

theorem info3 : (Tryd.prog.info? 3).map (fun i => (i.zero, i.size, i.bytes)) = some (some (.int .i64 0), 1, 8) := by kernel_rfl

/-- a word turned right by n -/
def turn (x n : Nat) : Nat := (x / 2 ^ n ||| x * 2 ^ (32 - n)) % 4294967296

theorem wraps62 (n : Int) (h0 : 0 ≤ n) (h1 : n < 2 ^ 63) : IntKind.i64.wrap n = n := by rw [IntKind.wrap_i64]; omega

theorem or_nat {a b : Nat} (ha : a < 2 ^ 63) (hb : b < 2 ^ 63) : bits .or .i64 (a : Int) (b : Int) = ((a ||| b : Nat) : Int) := (bits_nat .i64 63 (by decide) wraps62 a b ha hb).2

theorem and_nat {a b : Nat} (ha : a < 2 ^ 63) (hb : b < 2 ^ 63) : bits .and .i64 (a : Int) (b : Int) = ((a &&& b : Nat) : Int) := (bits_nat .i64 63 (by decide) wraps62 a b ha hb).1

theorem xor_nat {a b : Nat} (ha : a < 2 ^ 63) (hb : b < 2 ^ 63) : bits .xor .i64 (a : Int) (b : Int) = ((a ^^^ b : Nat) : Int) := by
  have ha' : a % 2 ^ 64 = a := Nat.mod_eq_of_lt (by omega)
  have hb' : b % 2 ^ 64 = b := Nat.mod_eq_of_lt (by omega)
  have e : bits .xor .i64 (a : Int) (b : Int) = IntKind.i64.wrap (((BitVec.ofInt 64 (a : Int) ^^^ BitVec.ofInt 64 (b : Int)).toNat : Nat) : Int) := rfl
  rw [e, BitVec.ofInt_natCast, BitVec.ofInt_natCast, BitVec.toNat_xor, BitVec.toNat_ofNat, BitVec.toNat_ofNat, ha', hb']
  exact wraps62 _ (Int.natCast_nonneg _) (by have := Nat.xor_lt_two_pow ha hb; omega)

theorem mask_nat {a : Nat} (ha : a < 2 ^ 63) : bits .and .i64 (a : Int) 4294967295 = ((a % 4294967296 : Nat) : Int) := by
  have h := and_nat (b := 4294967295) ha (by decide)
  have e : ((4294967295 : Nat) : Int) = 4294967295 := rfl
  rw [e] at h
  rw [h, show (4294967295 : Nat) = 2 ^ 32 - 1 by decide, Nat.and_two_pow_sub_one_eq_mod]

theorem turn_eq (x n : Nat) (hx : x < 4294967296) (hn1 : 1 ≤ n) (hn2 : n ≤ 31) :
    bits .and .i64 (bits .or .i64 ((x : Int) / 2 ^ n) (wrap64 ((x : Int) * 2 ^ (32 - n)))) 4294967295 = ((turn x n : Nat) : Int) := by
  have hp : (2 : Nat) ^ (32 - n) ≤ 2 ^ 31 := Nat.pow_le_pow_right (by decide) (by omega)
  have hxp : x * 2 ^ (32 - n) ≤ 4294967295 * 2 ^ 31 := Nat.mul_le_mul (by omega) hp
  have e1 : (x : Int) / 2 ^ n = ((x / 2 ^ n : Nat) : Int) := by push_cast; rfl
  have e2 : (x : Int) * 2 ^ (32 - n) = ((x * 2 ^ (32 - n) : Nat) : Int) := by push_cast; rfl
  have hd : x / 2 ^ n ≤ x := Nat.div_le_self _ _
  rw [e2, IntWalk.wrap64_in _ (by omega), e1, or_nat (by omega) (by omega), mask_nat (Nat.or_lt_two_pow (by omega) (by omega))]
  rfl

theorem turn_lt (x n : Nat) : turn x n < 4294967296 := Nat.mod_lt _ (by decide)

/-- natural numbers as cells -/
def ns (l : List Nat) : List Value := l.map fun n : Nat => Value.int .i64 (n : Int)

theorem ns_len (l : List Nat) : (ns l).length = l.length := by simp [ns]

theorem ns_app (l r : List Nat) : ns (l ++ r) = ns l ++ ns r := by simp [ns]

theorem ns_one (l : List Nat) : ∀ u ∈ ns l, u.oneCell' = true := by
  intro u hu
  obtain ⟨_, _, rfl⟩ := List.mem_map.1 hu
  rfl

theorem Own.emptyN (w : World) (lo : Nat) (h : lo ≤ w.heap.size) : Own (w.alloc (.cells #[] 3)) lo (w.alloc (.cells #[] 3)).heap.size 3 (.slice (some ⟨w.heap.size, 0, none⟩) 0 0) (ns []) :=
  Own.of (World.ownsRow_lit w #[] 0 h (Nat.zero_le _) rfl)

/-- the byte at j, and the word of the four bytes from 4 i on -/
def nb (ys : List Int) (j : Nat) : Nat := (ys.getD j 0).toNat

def wd (ys : List Int) (i : Nat) : Nat := ((nb ys (4 * i) * 16777216 ||| nb ys (4 * i + 1) * 65536) ||| nb ys (4 * i + 2) * 256) ||| nb ys (4 * i + 3)

theorem nb_lt {ys : List Int} (h : Byt ys) (j : Nat) : nb ys j < 256 := by
  unfold nb
  by_cases hj : j < ys.length
  · have := h (ys[j]) (List.getElem_mem hj)
    simp [List.getD, hj]
    omega
  · simp [List.getD, show ys.length ≤ j by omega]

theorem wd_bits (a b c d : Nat) (ha : a < 256) (hb : b < 256) (hc : c < 256) (hd : d < 256) :
    bits .or .i64 (bits .or .i64 (bits .or .i64 ((a : Int) * 16777216) ((b : Int) * 65536)) ((c : Int) * 256)) (d : Int) = ((((a * 16777216 ||| b * 65536) ||| c * 256) ||| d : Nat) : Int) := by
  have e1 : (a : Int) * 16777216 = ((a * 16777216 : Nat) : Int) := by omega
  have e2 : (b : Int) * 65536 = ((b * 65536 : Nat) : Int) := by omega
  have e3 : (c : Int) * 256 = ((c * 256 : Nat) : Int) := by omega
  have l1 : a * 16777216 ||| b * 65536 < 2 ^ 32 := Nat.or_lt_two_pow (by omega) (by omega)
  have l2 : (a * 16777216 ||| b * 65536) ||| c * 256 < 2 ^ 32 := Nat.or_lt_two_pow l1 (by omega)
  rw [e1, e2, e3, or_nat (by omega) (by omega), or_nat (by omega) (by omega), or_nat (by omega) (by omega)]

theorem wd_lt {ys : List Int} (h : Byt ys) (i : Nat) : wd ys i < 4294967296 := by
  unfold wd
  have h0 := nb_lt h (4 * i)
  have h1 := nb_lt h (4 * i + 1)
  have h2 := nb_lt h (4 * i + 2)
  have h3 := nb_lt h (4 * i + 3)
  have l1 : nb ys (4 * i) * 16777216 ||| nb ys (4 * i + 1) * 65536 < 2 ^ 32 := Nat.or_lt_two_pow (by omega) (by omega)
  have l2 := Nat.or_lt_two_pow l1 (show nb ys (4 * i + 2) * 256 < 2 ^ 32 by omega)
  exact Nat.or_lt_two_pow l2 (by omega)

theorem byte_cell {w : World} {ys : List Int} {b off : Nat} (hby : Byt ys) (h : ∀ j, j < ys.length → w.cell? ⟨b, off + j, none⟩ = (bs ys)[j]?) (j : Nat) (hj : j < ys.length) : w.cell? ⟨b, off + j, none⟩ = some (.int .u8 (nb ys j : Nat)) := by
  rw [h j hj, bs_get]
  have hb := hby (ys[j]) (List.getElem_mem hj)
  simp [nb, List.getD, hj]
  omega

def s0w (x : Nat) : Nat := (turn x 7 ^^^ turn x 18) ^^^ x / 8

def s1w (x : Nat) : Nat := (turn x 17 ^^^ turn x 19) ^^^ x / 1024

/-- the next word behind 16 or more -/
def nxt (l : List Nat) : Nat := (l.getD (l.length - 16) 0 + s0w (l.getD (l.length - 15) 0) + l.getD (l.length - 7) 0 + s1w (l.getD (l.length - 2) 0)) % 4294967296

def ext : Nat → List Nat → List Nat
  | 0, l => l
  | n + 1, l => ext n (l ++ [nxt l])

/-- the 64 words of a block -/
def words (ys : List Int) : List Nat := ext 48 ((List.range 16).map (wd ys))

theorem s0w_lt {x : Nat} (h : x < 4294967296) : s0w x < 4294967296 := by
  unfold s0w
  have h1 : turn x 7 ^^^ turn x 18 < 2 ^ 32 := Nat.xor_lt_two_pow (turn_lt _ _) (turn_lt _ _)
  exact Nat.xor_lt_two_pow h1 (by omega)

theorem s1w_lt {x : Nat} (h : x < 4294967296) : s1w x < 4294967296 := by
  unfold s1w
  have h1 : turn x 17 ^^^ turn x 19 < 2 ^ 32 := Nat.xor_lt_two_pow (turn_lt _ _) (turn_lt _ _)
  exact Nat.xor_lt_two_pow h1 (by omega)

theorem s0w_bits {x : Nat} (h : x < 4294967296) : bits .xor .i64 (bits .xor .i64 ((turn x 7 : Nat) : Int) ((turn x 18 : Nat) : Int)) ((x : Int) / 8) = ((s0w x : Nat) : Int) := by
  have t1 := turn_lt x 7
  have t2 := turn_lt x 18
  have h1 : turn x 7 ^^^ turn x 18 < 2 ^ 32 := Nat.xor_lt_two_pow t1 t2
  have e : (x : Int) / 8 = ((x / 8 : Nat) : Int) := by omega
  rw [e, xor_nat (by omega) (by omega), xor_nat (by omega) (by omega)]
  rfl

theorem s1w_bits {x : Nat} (h : x < 4294967296) : bits .xor .i64 (bits .xor .i64 ((turn x 17 : Nat) : Int) ((turn x 19 : Nat) : Int)) ((x : Int) / 1024) = ((s1w x : Nat) : Int) := by
  have t1 := turn_lt x 17
  have t2 := turn_lt x 19
  have h1 : turn x 17 ^^^ turn x 19 < 2 ^ 32 := Nat.xor_lt_two_pow t1 t2
  have e : (x : Int) / 1024 = ((x / 1024 : Nat) : Int) := by omega
  rw [e, xor_nat (by omega) (by omega), xor_nat (by omega) (by omega)]
  rfl

theorem Own.form {w : World} {lo hi : Nat} {e : TypeId} {v : Value} {cs : List Value} (h : Own w lo hi e v cs) (hp : 0 < cs.length) :
    ∃ g cap, v = .slice (some ⟨g, 0, none⟩) cs.length cap ∧ lo ≤ g ∧ g < hi ∧ cs.length ≤ cap ∧ ∀ j, j < cs.length → w.cell? ⟨g, j, none⟩ = cs[j]? := by
  have hsl := h.sl
  obtain ⟨⟨h1, h2⟩, h3⟩ := h
  rcases h2 with ⟨rfl, h0⟩ | ⟨g, cap, cur, rfl, hb, hg, hnc, hcm, hcs, ht⟩
  · omega
  · refine ⟨g, cap, rfl, hb, h3 g rfl, hnc, ?_⟩
    obtain ⟨ao, cap', he, _, _, hr⟩ := hsl
    obtain ⟨b, off, hao, hcell⟩ := hr hp
    simp only [Value.slice.injEq] at he
    rw [← he.1] at hao
    simp only [Option.some.injEq, Addr.mk.injEq, and_true] at hao
    obtain ⟨rfl, rfl⟩ := hao
    intro j hj
    have := hcell j hj
    rw [Nat.zero_add] at this
    exact this

theorem ns_cell {w : World} {g : Nat} {L : List Nat} (h : ∀ j, j < (ns L).length → w.cell? ⟨g, j, none⟩ = (ns L)[j]?) (j : Nat) (hj : j < L.length) : w.cell? ⟨g, j, none⟩ = some (.int .i64 ((L.getD j 0 : Nat) : Int)) := by
  rw [h j (by rw [ns_len]; exact hj)]
  simp [ns, List.getD, hj]

theorem getD_lt {L : List Nat} (h : ∀ x ∈ L, x < 4294967296) (j : Nat) : L.getD j 0 < 4294967296 := by
  by_cases hj : j < L.length
  · simp [List.getD, hj]; exact h _ (List.getElem_mem hj)
  · simp [List.getD, show L.length ≤ j by omega]

theorem Sl.oneD (w : World) (u : Value) (t : TypeId) : Sl ((w.alloc (.cells #[u] t)).drew) (.slice (some ⟨w.heap.size, 0, none⟩) 1 1) [u] := Sl.one w u t

theorem one_int (x : Int) : ∀ u ∈ [Value.int .i64 x], u.oneCell' = true := by
  intro u hu
  rw [List.mem_singleton] at hu
  rw [hu]
  rfl

end Go.Proofs.YtbopliahafkecaaDoor.Sha

/- Contract of the specification's block: 64 rounds over the words, and the sums with what was before. -/
namespace Go.Proofs.YtbopliahafkecaaDoor.Sha
open Go.RowKit Go.Proofs.YtbopliahafkecaaDoor.Mem Go.Proofs.YtbopliahafkecaaDoor.Laws Go.Proofs.YtbopliahafkecaaDoor.Bytes
set_option linter.unusedVariables false
set_option linter.unusedSimpArgs false

def big1 (e : Nat) : Nat := (turn e 6 ^^^ turn e 11) ^^^ turn e 25

def big0 (a : Nat) : Nat := (turn a 2 ^^^ turn a 13) ^^^ turn a 22

def ch (e f g : Nat) : Nat := (e &&& f) ^^^ ((4294967295 ^^^ e) &&& g)

def maj (a b c : Nat) : Nat := ((a &&& b) ^^^ (a &&& c)) ^^^ (b &&& c)

def t1 (e f g h k x : Nat) : Nat := h + big1 e + ch e f g + k + x

def t2 (a b c : Nat) : Nat := big0 a + maj a b c

def rnd8 (a b c d e f g h k x : Nat) : List Nat := [(t1 e f g h k x + t2 a b c) % 4294967296, a, b, c, (d + t1 e f g h k x) % 4294967296, e, f, g]

def rnds : List Nat → List Nat → List Nat → List Nat
  | k :: ks, x :: xs, [a, b, c, d, e, f, g, h] => rnds ks xs (rnd8 a b c d e f g h k x)
  | _, _, v => v

/-- a block's eight words out of those before -/
def blk (H : List Nat) (ys : List Int) (K : List Nat) : List Nat := List.zipWith (fun x y => (x + y) % 4294967296) (rnds K (words ys) H) H

theorem xl {a b : Nat} (ha : a < 4294967296) (hb : b < 4294967296) : a ^^^ b < 4294967296 := Nat.xor_lt_two_pow (n := 32) ha hb

theorem al {a b : Nat} (hb : b < 4294967296) : a &&& b < 4294967296 := Nat.lt_of_le_of_lt Nat.and_le_right hb

theorem big1_lt (e : Nat) : big1 e < 4294967296 := xl (xl (turn_lt _ _) (turn_lt _ _)) (turn_lt _ _)

theorem big0_lt (a : Nat) : big0 a < 4294967296 := xl (xl (turn_lt _ _) (turn_lt _ _)) (turn_lt _ _)

theorem ch_lt {e f g : Nat} (hf : f < 4294967296) (hg : g < 4294967296) : ch e f g < 4294967296 := xl (al hf) (al hg)

theorem maj_lt {a b c : Nat} (hb : b < 4294967296) (hc : c < 4294967296) : maj a b c < 4294967296 := xl (xl (al hb) (al hc)) (al hc)

theorem xb {a b : Nat} (ha : a < 4294967296) (hb : b < 4294967296) : bits .xor .i64 (a : Int) (b : Int) = ((a ^^^ b : Nat) : Int) := xor_nat (by omega) (by omega)

theorem ab {a b : Nat} (ha : a < 4294967296) (hb : b < 4294967296) : bits .and .i64 (a : Int) (b : Int) = ((a &&& b : Nat) : Int) := and_nat (by omega) (by omega)

theorem big1_bits (e : Nat) : bits .xor .i64 (bits .xor .i64 ((turn e 6 : Nat) : Int) ((turn e 11 : Nat) : Int)) ((turn e 25 : Nat) : Int) = ((big1 e : Nat) : Int) := by
  rw [xb (turn_lt _ _) (turn_lt _ _), xb (xl (turn_lt _ _) (turn_lt _ _)) (turn_lt _ _)]; rfl

theorem big0_bits (a : Nat) : bits .xor .i64 (bits .xor .i64 ((turn a 2 : Nat) : Int) ((turn a 13 : Nat) : Int)) ((turn a 22 : Nat) : Int) = ((big0 a : Nat) : Int) := by
  rw [xb (turn_lt _ _) (turn_lt _ _), xb (xl (turn_lt _ _) (turn_lt _ _)) (turn_lt _ _)]; rfl

theorem ch_bits {e f g : Nat} (he : e < 4294967296) (hf : f < 4294967296) (hg : g < 4294967296) : bits .xor .i64 (bits .and .i64 (e : Int) (f : Int)) (bits .and .i64 (bits .xor .i64 4294967295 (e : Int)) (g : Int)) = ((ch e f g : Nat) : Int) := by
  have e0 : (4294967295 : Int) = ((4294967295 : Nat) : Int) := rfl
  rw [e0, xb (by omega) he, ab he hf, ab (xl (by omega) he) hg, xb (al hf) (al hg)]; rfl

theorem maj_bits {a b c : Nat} (ha : a < 4294967296) (hb : b < 4294967296) (hc : c < 4294967296) : bits .xor .i64 (bits .xor .i64 (bits .and .i64 (a : Int) (b : Int)) (bits .and .i64 (a : Int) (c : Int))) (bits .and .i64 (b : Int) (c : Int)) = ((maj a b c : Nat) : Int) := by
  rw [ab ha hb, ab ha hc, ab hb hc, xb (al hb) (al hc), xb (xl (al hb) (al hc)) (al hc)]; rfl

/-- the cells of eight words -/
def At8 (w : World) (g : Nat) (a b c d e f q h : Nat) : Prop :=
  w.cell? ⟨g, 0, none⟩ = some (.int .i64 (a : Int)) ∧ w.cell? ⟨g, 1, none⟩ = some (.int .i64 (b : Int)) ∧ w.cell? ⟨g, 2, none⟩ = some (.int .i64 (c : Int)) ∧ w.cell? ⟨g, 3, none⟩ = some (.int .i64 (d : Int)) ∧
  w.cell? ⟨g, 4, none⟩ = some (.int .i64 (e : Int)) ∧ w.cell? ⟨g, 5, none⟩ = some (.int .i64 (f : Int)) ∧ w.cell? ⟨g, 6, none⟩ = some (.int .i64 (q : Int)) ∧ w.cell? ⟨g, 7, none⟩ = some (.int .i64 (h : Int))

theorem at8 {w : World} {g : Nat} {a b c d e f q h : Nat} (hc : ∀ j, j < (ns [a, b, c, d, e, f, q, h]).length → w.cell? ⟨g, j, none⟩ = (ns [a, b, c, d, e, f, q, h])[j]?) : At8 w g a b c d e f q h := by
  refine ⟨?_, ?_, ?_, ?_, ?_, ?_, ?_, ?_⟩
  · exact hc 0 (by simp [ns])
  · exact hc 1 (by simp [ns])
  · exact hc 2 (by simp [ns])
  · exact hc 3 (by simp [ns])
  · exact hc 4 (by simp [ns])
  · exact hc 5 (by simp [ns])
  · exact hc 6 (by simp [ns])
  · exact hc 7 (by simp [ns])

/-- ONE ROUND, as the walk meets it: what the new eight words come to. -/
theorem rnd_own {W : World} {lo : Nat} {a b c d e f q h k x : Nat} {z0 z4 : Int} (h0 : z0 = (((t1 e f q h k x + t2 a b c) % 4294967296 : Nat) : Int)) (h4 : z4 = (((d + t1 e f q h k x) % 4294967296 : Nat) : Int)) (hlo : lo ≤ W.heap.size) :
    Own (W.alloc (.cells #[.int .i64 z0, .int .i64 (a : Int), .int .i64 (b : Int), .int .i64 (c : Int), .int .i64 z4, .int .i64 (e : Int), .int .i64 (f : Int), .int .i64 (q : Int)] 3)) lo
      (W.alloc (.cells #[.int .i64 z0, .int .i64 (a : Int), .int .i64 (b : Int), .int .i64 (c : Int), .int .i64 z4, .int .i64 (e : Int), .int .i64 (f : Int), .int .i64 (q : Int)] 3)).heap.size 3 (.slice (some ⟨W.heap.size, 0, none⟩) 8 8) (ns (rnd8 a b c d e f q h k x)) := by
  subst h0
  subst h4
  exact Own.of (World.ownsRow_lit W _ 8 hlo (by unfold maxLen; omega) rfl)

theorem kcell {w : World} {b off : Nat} {L : List Nat} (h : ∀ j, j < (ns L).length → w.cell? ⟨b, off + j, none⟩ = (ns L)[j]?) (j : Nat) (hj : j < L.length) : w.cell? ⟨b, off + j, none⟩ = some (.int .i64 ((L.getD j 0 : Nat) : Int)) := by
  rw [h j (by rw [ns_len]; exact hj)]
  simp [ns, List.getD, hj]

theorem drop_nat {L : List Nat} {k : Nat} (h : k < L.length) : L.drop k = L.getD k 0 :: L.drop (k + 1) := by
  rw [List.drop_eq_getElem_cons h]; simp [List.getD, h]

theorem ext_len (n : Nat) : ∀ l, (ext n l).length = l.length + n := by
  induction n with
  | zero => intro l; rfl
  | succ n ih => intro l; rw [ext, ih]; simp; omega

theorem words_len (ys : List Int) : (words ys).length = 64 := by unfold words; rw [ext_len]; simp

theorem ext_lt (n : Nat) : ∀ l, (∀ x ∈ l, x < 4294967296) → ∀ x ∈ ext n l, x < 4294967296 := by
  induction n with
  | zero => intro l h; exact h
  | succ n ih =>
    intro l h
    rw [ext]
    refine ih _ (fun x hx => ?_)
    rcases List.mem_append.1 hx with hx | hx
    · exact h x hx
    · rw [List.mem_singleton] at hx; rw [hx]; exact Nat.mod_lt _ (by decide)

theorem words_lt {ys : List Int} (h : Byt ys) : ∀ x ∈ words ys, x < 4294967296 := by
  unfold words
  refine ext_lt 48 _ (fun x hx => ?_)
  obtain ⟨j, _, rfl⟩ := List.mem_map.1 hx
  exact wd_lt h j

theorem zip_step (Z H : List Nat) (m : Nat) (hZ : Z.length = 8) (hH : H.length = 8) (hm : m < 8) :
    ((List.zipWith (fun x y => (x + y) % 4294967296) Z H).take m ++ Z.drop m).set m ((Z.getD m 0 + H.getD m 0) % 4294967296) = (List.zipWith (fun x y => (x + y) % 4294967296) Z H).take (m + 1) ++ Z.drop (m + 1) := by
  apply List.ext_getElem?
  intro j
  have hl : ((List.zipWith (fun x y => (x + y) % 4294967296) Z H).take m).length = m := by simp; omega
  have hl2 : ((List.zipWith (fun x y => (x + y) % 4294967296) Z H).take (m + 1)).length = m + 1 := by simp; omega
  by_cases hj : j = m
  · subst hj
    rw [List.getElem?_set_self (by simp; omega), List.getElem?_append_left (by omega), List.getElem?_take, if_pos (by omega), List.getElem?_zipWith]
    simp [List.getD, hZ, hH, hm]
  · rw [List.getElem?_set_ne (by omega)]
    by_cases hlt : j < m
    · rw [List.getElem?_append_left (by omega), List.getElem?_append_left (by omega), List.getElem?_take, if_pos hlt, List.getElem?_take, if_pos (by omega)]
    · rw [List.getElem?_append_right (by omega), List.getElem?_append_right (by omega), hl, hl2, List.getElem?_drop, List.getElem?_drop]
      congr 1
      omega

end Go.Proofs.YtbopliahafkecaaDoor.Sha

/- Contract of the specification's digest: of any bytes, the 32 bytes of the eight words behind all blocks. -/
namespace Go.Proofs.YtbopliahafkecaaDoor.Sha
open Go.RowKit Go.Proofs.YtbopliahafkecaaDoor.Mem Go.Proofs.YtbopliahafkecaaDoor.Laws Go.Proofs.YtbopliahafkecaaDoor.Bytes
set_option linter.unusedVariables false
set_option linter.unusedSimpArgs false

/-- the constants of the cube roots, and the words of the square roots -/
def KC : List Nat := [1116352408, 1899447441, 3049323471, 3921009573, 961987163, 1508970993, 2453635748, 2870763221, 3624381080, 310598401, 607225278, 1426881987, 1925078388, 2162078206, 2614888103, 3248222580, 3835390401, 4022224774, 264347078, 604807628, 770255983, 1249150122, 1555081692, 1996064986, 2554220882, 2821834349, 2952996808, 3210313671, 3336571891, 3584528711, 113926993, 338241895, 666307205, 773529912, 1294757372, 1396182291, 1695183700, 1986661051, 2177026350, 2456956037, 2730485921, 2820302411, 3259730800, 3345764771, 3516065817, 3600352804, 4094571909, 275423344, 430227734, 506948616, 659060556, 883997877, 958139571, 1322822218, 1537002063, 1747873779, 1955562222, 2024104815, 2227730452, 2361852424, 2428436474, 2756734187, 3204031479, 3329325298]

def H0 : List Nat := [1779033703, 3144134277, 1013904242, 2773480762, 1359893119, 2600822924, 528734635, 1541459225]

theorem KC_len : KC.length = 64 := rfl

theorem KC_lt : ∀ x ∈ KC, x < 4294967296 := by decide

theorem H0_lt : ∀ x ∈ H0, x < 4294967296 := by decide

def dblocks : Nat → List Nat → List Int → List Nat
  | 0, H, _ => H
  | n + 1, H, ys => dblocks n (blk H (ys.take 64) KC) (ys.drop 64)

def be4 (x : Nat) : List Int := [((x / 16777216 % 256 : Nat) : Int), ((x / 65536 % 256 : Nat) : Int), ((x / 256 % 256 : Nat) : Int), ((x % 256 : Nat) : Int)]

/-- the digest's 32 bytes -/
def digest (xs : List Int) : List Int := (dblocks ((padded xs).length / 64) H0 (padded xs)).flatMap be4

theorem padded_len (xs : List Int) : (padded xs).length % 64 = 0 := by
  unfold padded zc
  simp [be8]
  omega

theorem padded_le (xs : List Int) : (padded xs).length ≤ xs.length + 73 := by
  unfold padded zc
  simp [be8]
  omega

theorem be8_byt (n : Nat) : Byt (be8 n) := by
  intro x hx
  simp only [be8, List.mem_cons, List.not_mem_nil, or_false] at hx
  omega

theorem padded_byt {xs : List Int} (h : Byt xs) : Byt (padded xs) := by
  unfold padded
  refine ((h.app ?_).app ?_).app (be8_byt _)
  · intro x hx; rw [List.mem_singleton] at hx; omega
  · intro x hx; have := List.eq_of_mem_replicate hx; omega

theorem lit_own (w : World) (lo : Nat) (cs : Array Value) (n : Nat) (L : List Nat) (hn : cs.toList = ns L) (hl : L.length = n) (h : lo ≤ w.heap.size) (hm : n ≤ 1000) : Own (w.alloc (.cells cs 3)) lo (w.alloc (.cells cs 3)).heap.size 3 (.slice (some ⟨w.heap.size, 0, none⟩) n n) (ns L) := by
  have hs : cs.size = n * 1 := by have := congrArg List.length hn; rw [ns_len, hl, Array.length_toList] at this; omega
  have := Own.of (World.ownsRow_lit (e := 3) (base := lo) (size := 1) w cs n h (by unfold maxLen; omega) hs)
  rw [hn] at this
  exact this

theorem flat4 (l : List Nat) : (l.flatMap be4).length = 4 * l.length := by
  induction l with
  | nil => rfl
  | cons x r ih => rw [List.flatMap_cons, List.length_append, ih, List.length_cons]; simp [be4]; omega

theorem be4_byt (x : Nat) : Byt (be4 x) := by
  intro y hy
  simp only [be4, List.mem_cons, List.not_mem_nil, or_false] at hy
  omega

theorem flat_byt (l : List Nat) : Byt (l.flatMap be4) := by
  intro y hy
  obtain ⟨x, _, hx⟩ := List.mem_flatMap.1 hy
  exact be4_byt x y hx

theorem Sl.four (w : World) (a b c d : Int) (t : TypeId) : Sl ((w.alloc (.cells #[.int .u8 a, .int .u8 b, .int .u8 c, .int .u8 d] t)).drew) (.slice (some ⟨w.heap.size, 0, none⟩) 4 4) (bs [a, b, c, d]) := by
  refine ⟨some ⟨w.heap.size, 0, none⟩, 4, rfl, by simp [bs], fun h => (by cases h), fun _ => ⟨w.heap.size, 0, rfl, fun j hj => ?_⟩⟩
  show (w.alloc _).cell? _ = _
  rw [cell_of_row _ w.heap.size (0 + j) #[.int .u8 a, .int .u8 b, .int .u8 c, .int .u8 d] t (0, 0) (heap_alloc_new w _)]
  have h2 : j = 0 ∨ j = 1 ∨ j = 2 ∨ j = 3 := by simp [bs] at hj; omega
  rcases h2 with rfl | rfl | rfl | rfl <;> simp [bs]

theorem len8 {L : List Nat} (h : L.length = 8) : ∃ a b c d e f q r, L = [a, b, c, d, e, f, q, r] := by
  match L, h with
  | [a, b, c, d, e, f, q, r], _ => exact ⟨a, b, c, d, e, f, q, r, rfl⟩

theorem rnds_len (K : List Nat) : ∀ (X v : List Nat), v.length = 8 → (rnds K X v).length = 8 := by
  induction K with
  | nil => intro X v h; rw [rnds]; exact h; intro k ks x xs a b c d e f g h h1; cases h1
  | cons k ks ih =>
    intro X v h
    cases X with
    | nil => rw [rnds]; exact h; intro k ks x xs a b c d e f g h h1 h2; cases h2
    | cons x xs =>
      obtain ⟨a, b, c, d, e, f, q, r, rfl⟩ := len8 h
      rw [rnds]
      exact ih xs _ rfl

theorem blk_len (a b c d e f q h : Nat) (ys : List Int) (K : List Nat) : (blk [a, b, c, d, e, f, q, h] ys K).length = 8 := by
  unfold blk
  rw [List.length_zipWith, rnds_len K _ _ rfl]
  rfl

theorem blk_lt (H : List Nat) (ys : List Int) (K : List Nat) : ∀ x ∈ blk H ys K, x < 4294967296 := by
  intro x hx
  unfold blk at hx
  obtain ⟨j, hj, rfl⟩ := List.getElem_of_mem hx
  rw [List.getElem_zipWith]
  exact Nat.mod_lt _ (by decide)

end Go.Proofs.YtbopliahafkecaaDoor.Sha

/- Plain facts of digests: 32 bytes, which come back of their hex digits; what is padded begins with what there was. -/
namespace Go.Proofs.YtbopliahafkecaaDoor.Sha
open Go.Proofs.YtbopliahafkecaaDoor.Mem Go.Proofs.YtbopliahafkecaaDoor.Laws

theorem blk_len8 {H : List Nat} (h : H.length = 8) (ys : List Int) (K : List Nat) : (blk H ys K).length = 8 := by
  obtain ⟨a, b, c, d, e, f, q, r, rfl⟩ := len8 h
  exact blk_len a b c d e f q r ys K

theorem dblocks_len (n : Nat) : ∀ (H : List Nat) (ys : List Int), H.length = 8 → (dblocks n H ys).length = 8 := by
  induction n with
  | zero => intro H ys h; exact h
  | succ n ih => intro H ys h; rw [dblocks]; exact ih _ _ (blk_len8 h _ _)

theorem digest_len (xs : List Int) : (digest xs).length = 32 := by
  unfold digest
  rw [flat4, dblocks_len _ _ _ rfl]

theorem digest_byt (xs : List Int) : Byt (digest xs) := flat_byt _

theorem txt_size (l : List Int) : (Plain.txt l).size = l.length := by
  show (Plain.txt l).data.size = _
  simp [Plain.txt, Plain.u8s]

theorem sb_txt {l : List Int} (h : Byt l) : sb (Plain.txt l) = l := by
  unfold sb Plain.txt Plain.u8s
  simp only [List.map_map]
  have e : ∀ x ∈ l, ((fun b : UInt8 => (b.toNat : Int)) ∘ fun x : Int => UInt8.ofNat x.toNat) x = x := fun x hx => Plain.u8_back (h x hx)
  rw [List.map_congr_left e]
  simp

theorem undig_hexd {d : Int} (h0 : 0 ≤ d) (h1 : d < 16) : undig (hexd d) = d := by
  unfold undig hexd
  split
  · rw [if_pos (by omega)]; omega
  · rw [if_neg (by omega), if_pos (by omega)]; omega

theorem unhex_hexs (l : List Int) (h : Byt l) : unhex (hexs l) = some l := by
  induction l with
  | nil => rfl
  | cons c r ih =>
    have hc := h c (List.mem_cons_self ..)
    have e : hexs (c :: r) = hexd (c / 16) :: hexd (c % 16) :: hexs r := by
      rw [show c :: r = [c] ++ r from rfl, hexs_app, hexs_one]; rfl
    have e1 := undig_hexd (d := c / 16) (by omega) (by omega)
    have e2 := undig_hexd (d := c % 16) (by omega) (by omega)
    rw [e, unhex_good (by rw [e1, e2]; omega), ih (fun x hx => h x (List.mem_cons_of_mem _ hx)), e1, e2]
    simp only [Option.map_some, Option.some.injEq, List.cons.injEq, and_true]
    omega

theorem unHex_back {l : List Int} (h : Byt l) : unHex (Plain.txt (hexs l)) = (Plain.txt l, true) :=
  unHex_some (by rw [sb_txt (hexs_byt l h)]; exact unhex_hexs l h)

theorem padded_ge (xs : List Int) : xs.length + 9 ≤ (padded xs).length := by
  simp only [padded, be8, List.length_append, List.length_cons, List.length_nil, List.length_replicate]
  omega

theorem padded_at (xs : List Int) : (padded xs)[xs.length]? = some 128 := by
  unfold padded
  rw [List.append_assoc, List.append_assoc, List.getElem?_append_right (Nat.le_refl _), Nat.sub_self]
  rfl

theorem padded_pre (xs : List Int) (j : Nat) (h : j < xs.length) : (padded xs)[j]? = xs[j]? := by
  unfold padded
  rw [List.append_assoc, List.append_assoc, List.getElem?_append_left h]

end Go.Proofs.YtbopliahafkecaaDoor.Sha

/- Chapter 6: trees of digests, plain facts alone. -/
namespace Go.Proofs.YtbopliahafkecaaDoor.Tr
open Go.RowKit Go.Proofs.YtbopliahafkecaaDoor.Mem Go.Proofs.YtbopliahafkecaaDoor.Laws Go.Proofs.YtbopliahafkecaaDoor.Sha
set_option linter.unusedVariables false
set_option linter.unusedSimpArgs false

/-- what holds of a list if it holds of all shorter ones -/
theorem lenRec {P : List ByteArray → Prop} (h : ∀ l, (∀ r, r.length < l.length → P r) → P l) (l : List ByteArray) : P l := by
  have key : ∀ (N : Nat) (l : List ByteArray), l.length < N → P l := by
    intro N
    induction N with
    | zero => intro l hl; omega
    | succ N ih => intro l hl; exact h l (fun r hr => ih r (by omega))
  exact key (l.length + 1) l (Nat.lt_succ_self _)

/-- what holds of a number if it holds of all lesser ones -/
theorem natRec {P : Nat → Prop} (h : ∀ n, (∀ m, m < n → P m) → P n) (n : Nat) : P n := by
  have key : ∀ (N : Nat) (n : Nat), n < N → P n := by
    intro N
    induction N with
    | zero => intro n hn; omega
    | succ N ih => intro n hn; exact h n (fun m hm => ih m (by omega))
  exact key (n + 1) n (Nat.lt_succ_self _)

/-- a number doubled from k on while it stays below n -/
def halfF : Nat → Nat → Nat → Nat
  | 0, k, _ => k
  | f + 1, k, n => if 2 * k < n then halfF f (2 * k) n else k

/-- the greatest power of 2 that is less than n (of 2 or more) -/
def half (n : Nat) : Nat := halfF n 1 n

/-- a power of 2 -/
def Pow (p : Nat) : Prop := ∃ e, p = 2 ^ e

theorem halfF_ok : ∀ (f k n : Nat), 1 ≤ k → k < n → n ≤ k + f → Pow k → Pow (halfF f k n) ∧ halfF f k n < n ∧ n ≤ 2 * halfF f k n := by
  intro f
  induction f with
  | zero => intro k n h1 h2 h3; omega
  | succ f ih =>
    intro k n h1 h2 h3 hp
    unfold halfF
    split
    · exact ih (2 * k) n (by omega) (by assumption) (by omega) (by obtain ⟨e, rfl⟩ := hp; exact ⟨e + 1, by rw [Nat.pow_succ]; omega⟩)
    · exact ⟨hp, h2, by omega⟩

theorem half_ok {n : Nat} (h : 2 ≤ n) : Pow (half n) ∧ half n < n ∧ n ≤ 2 * half n := halfF_ok n 1 n (by omega) (by omega) (by omega) ⟨0, rfl⟩

theorem half_pos {n : Nat} (h : 2 ≤ n) : 1 ≤ half n := by
  have := (half_ok h).2.2
  omega

theorem pow_one {p q n : Nat} (hp : Pow p) (hq : Pow q) (h1 : p < n) (h2 : n ≤ 2 * p) (h3 : q < n) (h4 : n ≤ 2 * q) : p = q := by
  obtain ⟨e, rfl⟩ := hp
  obtain ⟨d, rfl⟩ := hq
  have a1 : 2 ^ e < 2 ^ (d + 1) := by rw [Nat.pow_succ]; omega
  have a2 : 2 ^ d < 2 ^ (e + 1) := by rw [Nat.pow_succ]; omega
  have b1 := (Nat.pow_lt_pow_iff_right (by omega : 1 < 2)).1 a1
  have b2 := (Nat.pow_lt_pow_iff_right (by omega : 1 < 2)).1 a2
  have : e = d := by omega
  rw [this]

/-- more than half of it has the same half -/
theorem half_same {n m : Nat} (hm : 2 ≤ m) (h1 : half m < n) (h2 : n ≤ m) : half n = half m := by
  have hp := half_pos hm
  obtain ⟨a, b, c⟩ := half_ok hm
  obtain ⟨a', b', c'⟩ := half_ok (n := n) (by omega)
  exact pow_one a' a b' c' h1 (by omega)

/-- a leaf's digest, a node's -/
def leafH (s : ByteArray) : ByteArray := Plain.txt (digest (0 :: sb s))

def nodeH (a b : ByteArray) : ByteArray := Plain.txt (digest (1 :: (sb a ++ sb b)))

theorem leafH_size (s : ByteArray) : (leafH s).size = 32 := by unfold leafH; rw [txt_size, digest_len]

theorem nodeH_size (a b : ByteArray) : (nodeH a b).size = 32 := by unfold nodeH; rw [txt_size, digest_len]

/-- the root of no text, or of the first one -/
def root1 : List ByteArray → ByteArray
  | [] => Plain.txt (digest [])
  | s :: _ => leafH s

/-- the root of a list (f: more than it has) -/
def rootF : Nat → List ByteArray → ByteArray
  | 0, _ => ⟨#[]⟩
  | f + 1, l =>
    if 2 ≤ l.length then nodeH (rootF f (l.take (half l.length))) (rootF f (l.drop (half l.length)))
    else root1 l

theorem take_lt {l : List ByteArray} (h : 2 ≤ l.length) : (l.take (half l.length)).length < l.length := by
  rw [List.length_take]; have := (half_ok h).2.1; omega

theorem drop_lt {l : List ByteArray} (h : 2 ≤ l.length) : (l.drop (half l.length)).length < l.length := by
  rw [List.length_drop]; have := half_pos h; omega

theorem rootF_any : ∀ (f g : Nat) (l : List ByteArray), l.length < f → l.length < g → rootF f l = rootF g l := by
  intro f
  induction f with
  | zero => intro g l hf; omega
  | succ f ih =>
    intro g l hf hg
    cases g with
    | zero => omega
    | succ g =>
      by_cases h : 2 ≤ l.length
      · have h1 := take_lt h
        have h2 := drop_lt h
        rw [rootF, rootF, if_pos h, if_pos h, ih g (l.take (half l.length)) (by omega) (by omega), ih g (l.drop (half l.length)) (by omega) (by omega)]
      · rw [rootF, rootF, if_neg h, if_neg h]

def root (l : List ByteArray) : ByteArray := rootF (l.length + 1) l

theorem root_if (l : List ByteArray) : root l = if 2 ≤ l.length then nodeH (root (l.take (half l.length))) (root (l.drop (half l.length))) else root1 l := by
  unfold root
  by_cases h : 2 ≤ l.length
  · have h1 := take_lt h
    have h2 := drop_lt h
    rw [rootF, if_pos h, if_pos h, rootF_any l.length ((l.take (half l.length)).length + 1) (l.take (half l.length)) (by omega) (by omega), rootF_any l.length ((l.drop (half l.length)).length + 1) (l.drop (half l.length)) (by omega) (by omega)]
  · rw [rootF, if_neg h, if_neg h]

theorem root_nil : root [] = Plain.txt (digest []) := by rw [root_if]; simp [root1]

theorem root_one (s : ByteArray) : root [s] = leafH s := by rw [root_if]; simp [root1]

theorem root_more {l : List ByteArray} (h : 2 ≤ l.length) : root l = nodeH (root (l.take (half l.length))) (root (l.drop (half l.length))) := by
  rw [root_if, if_pos h]

theorem root_size (l : List ByteArray) : (root l).size = 32 := by
  by_cases h : 2 ≤ l.length
  · rw [root_more h]; exact nodeH_size _ _
  · match l, h with
    | [], _ => rw [root_nil, txt_size, digest_len]
    | [s], _ => rw [root_one]; exact leafH_size s
    | _ :: _ :: _, h => simp at h

/-- the path of the i-th (f: more than there are) -/
def pathF : Nat → List ByteArray → Nat → List ByteArray
  | 0, _, _ => []
  | f + 1, l, i =>
    if 2 ≤ l.length then
      (if i < half l.length then pathF f (l.take (half l.length)) i ++ [root (l.drop (half l.length))]
       else pathF f (l.drop (half l.length)) (i - half l.length) ++ [root (l.take (half l.length))])
    else []

theorem pathF_any : ∀ (f g : Nat) (l : List ByteArray) (i : Nat), l.length < f → l.length < g → pathF f l i = pathF g l i := by
  intro f
  induction f with
  | zero => intro g l i hf; omega
  | succ f ih =>
    intro g l i hf hg
    cases g with
    | zero => omega
    | succ g =>
      by_cases h : 2 ≤ l.length
      · have h1 := take_lt h
        have h2 := drop_lt h
        rw [pathF, pathF, if_pos h, if_pos h, ih g (l.take (half l.length)) i (by omega) (by omega), ih g (l.drop (half l.length)) (i - half l.length) (by omega) (by omega)]
      · rw [pathF, pathF, if_neg h, if_neg h]

def path (l : List ByteArray) (i : Nat) : List ByteArray := pathF (l.length + 1) l i

theorem path_if (l : List ByteArray) (i : Nat) : path l i = if 2 ≤ l.length then
      (if i < half l.length then path (l.take (half l.length)) i ++ [root (l.drop (half l.length))]
       else path (l.drop (half l.length)) (i - half l.length) ++ [root (l.take (half l.length))])
    else [] := by
  unfold path
  by_cases h : 2 ≤ l.length
  · have h1 := take_lt h
    have h2 := drop_lt h
    rw [pathF, if_pos h, if_pos h, pathF_any l.length ((l.take (half l.length)).length + 1) (l.take (half l.length)) i (by omega) (by omega), pathF_any l.length ((l.drop (half l.length)).length + 1) (l.drop (half l.length)) (i - half l.length) (by omega) (by omega)]
  · rw [pathF, if_neg h, if_neg h]

theorem path_no {l : List ByteArray} (h : ¬ 2 ≤ l.length) (i : Nat) : path l i = [] := by rw [path_if, if_neg h]

theorem path_low {l : List ByteArray} (h : 2 ≤ l.length) {i : Nat} (hi : i < half l.length) : path l i = path (l.take (half l.length)) i ++ [root (l.drop (half l.length))] := by
  rw [path_if, if_pos h, if_pos hi]

theorem path_high {l : List ByteArray} (h : 2 ≤ l.length) {i : Nat} (hi : ¬ i < half l.length) : path l i = path (l.drop (half l.length)) (i - half l.length) ++ [root (l.take (half l.length))] := by
  rw [path_if, if_pos h, if_neg hi]

/-- how many parts a path has (f: more than n) -/
def depF : Nat → Nat → Nat → Nat
  | 0, _, _ => 0
  | f + 1, i, n => if 2 ≤ n then (if i < half n then depF f i (half n) + 1 else depF f (i - half n) (n - half n) + 1) else 0

theorem depF_any : ∀ (f g i n : Nat), n < f → n < g → depF f i n = depF g i n := by
  intro f
  induction f with
  | zero => intro g i n hf; omega
  | succ f ih =>
    intro g i n hf hg
    cases g with
    | zero => omega
    | succ g =>
      by_cases h : 2 ≤ n
      · have h1 := (half_ok h).2.1
        have h2 := half_pos h
        rw [depF, depF, if_pos h, if_pos h, ih g i (half n) (by omega) (by omega), ih g (i - half n) (n - half n) (by omega) (by omega)]
      · rw [depF, depF, if_neg h, if_neg h]

def dep (i n : Nat) : Nat := depF (n + 1) i n

theorem dep_if (i n : Nat) : dep i n = if 2 ≤ n then (if i < half n then dep i (half n) + 1 else dep (i - half n) (n - half n) + 1) else 0 := by
  unfold dep
  by_cases h : 2 ≤ n
  · have h1 := (half_ok h).2.1
    have h2 := half_pos h
    rw [depF, if_pos h, if_pos h, depF_any n (half n + 1) i (half n) (by omega) (by omega), depF_any n (n - half n + 1) (i - half n) (n - half n) (by omega) (by omega)]
  · rw [depF, if_neg h, if_neg h]

theorem path_len (l : List ByteArray) : ∀ i : Nat, (path l i).length = dep i l.length := by
  refine lenRec (P := fun l => ∀ i : Nat, (path l i).length = dep i l.length) ?_ l
  intro l ih i
  by_cases h : 2 ≤ l.length
  · have hk := half_ok h
    have hp := half_pos h
    rw [dep_if, if_pos h]
    by_cases hi : i < half l.length
    · rw [path_low h hi, if_pos hi, List.length_append, ih (l.take (half l.length)) (take_lt h) i, List.length_take, Nat.min_eq_left (by omega)]
      rfl
    · rw [path_high h hi, if_neg hi, List.length_append, ih (l.drop (half l.length)) (drop_lt h) (i - half l.length), List.length_drop]
      rfl
  · rw [path_no h, dep_if, if_neg h]
    rfl

/-- the root over a path; false: it has not as many as it must (f: more than n) -/
def upF : Nat → ByteArray → Nat → Nat → List ByteArray → ByteArray × Bool
  | 0, _, _, _, _ => (⟨#[]⟩, false)
  | f + 1, leaf, i, n, p =>
    if 2 ≤ n then
      (match p.getLast? with
       | none => (⟨#[]⟩, false)
       | some last =>
         if i < half n then (nodeH (upF f leaf i (half n) p.dropLast).1 last, (upF f leaf i (half n) p.dropLast).2)
         else (nodeH last (upF f leaf (i - half n) (n - half n) p.dropLast).1, (upF f leaf (i - half n) (n - half n) p.dropLast).2))
    else (leaf, p.isEmpty)

theorem upF_any : ∀ (f g : Nat) (leaf : ByteArray) (i n : Nat) (p : List ByteArray), n < f → n < g → upF f leaf i n p = upF g leaf i n p := by
  intro f
  induction f with
  | zero => intro g leaf i n p hf; omega
  | succ f ih =>
    intro g leaf i n p hf hg
    cases g with
    | zero => omega
    | succ g =>
      by_cases h : 2 ≤ n
      · have h1 := (half_ok h).2.1
        have h2 := half_pos h
        rw [upF, upF, if_pos h, if_pos h, ih g leaf i (half n) p.dropLast (by omega) (by omega), ih g leaf (i - half n) (n - half n) p.dropLast (by omega) (by omega)]
      · rw [upF, upF, if_neg h, if_neg h]

def up (leaf : ByteArray) (i n : Nat) (p : List ByteArray) : ByteArray × Bool := upF (n + 1) leaf i n p

theorem up_if (leaf : ByteArray) (i n : Nat) (p : List ByteArray) : up leaf i n p = if 2 ≤ n then
      (match p.getLast? with
       | none => (⟨#[]⟩, false)
       | some last =>
         if i < half n then (nodeH (up leaf i (half n) p.dropLast).1 last, (up leaf i (half n) p.dropLast).2)
         else (nodeH last (up leaf (i - half n) (n - half n) p.dropLast).1, (up leaf (i - half n) (n - half n) p.dropLast).2))
    else (leaf, p.isEmpty) := by
  unfold up
  by_cases h : 2 ≤ n
  · have h1 := (half_ok h).2.1
    have h2 := half_pos h
    rw [upF, if_pos h, if_pos h, upF_any n (half n + 1) leaf i (half n) p.dropLast (by omega) (by omega), upF_any n (n - half n + 1) leaf (i - half n) (n - half n) p.dropLast (by omega) (by omega)]
  · rw [upF, if_neg h, if_neg h]

theorem up_no {n : Nat} (h : ¬ 2 ≤ n) (leaf : ByteArray) (i : Nat) (p : List ByteArray) : up leaf i n p = (leaf, p.isEmpty) := by rw [up_if, if_neg h]

theorem up_nil {n : Nat} (h : 2 ≤ n) (leaf : ByteArray) (i : Nat) : up leaf i n [] = (⟨#[]⟩, false) := by rw [up_if, if_pos h]; rfl

theorem up_low {n i : Nat} (h : 2 ≤ n) (hi : i < half n) (leaf last : ByteArray) (p : List ByteArray) : up leaf i n (p ++ [last]) = (nodeH (up leaf i (half n) p).1 last, (up leaf i (half n) p).2) := by
  rw [up_if, if_pos h, List.getLast?_append]
  simp only [List.getLast?_singleton, Option.some_or, List.dropLast_concat, if_pos hi]

theorem up_high {n i : Nat} (h : 2 ≤ n) (hi : ¬ i < half n) (leaf last : ByteArray) (p : List ByteArray) : up leaf i n (p ++ [last]) = (nodeH last (up leaf (i - half n) (n - half n) p).1, (up leaf (i - half n) (n - half n) p).2) := by
  rw [up_if, if_pos h, List.getLast?_append]
  simp only [List.getLast?_singleton, Option.some_or, List.dropLast_concat, if_neg hi]

theorem up_len (n : Nat) : ∀ (leaf : ByteArray) (i : Nat) (p : List ByteArray), (up leaf i n p).2 = decide (p.length = dep i n) := by
  refine natRec (P := fun n => ∀ (leaf : ByteArray) (i : Nat) (p : List ByteArray), (up leaf i n p).2 = decide (p.length = dep i n)) ?_ n
  intro n ih leaf i p
  by_cases h : 2 ≤ n
  · have hk := half_ok h
    have hp := half_pos h
    rcases List.eq_nil_or_concat p with rfl | ⟨q, last, rfl⟩
    · rw [up_nil h, dep_if, if_pos h]
      symm
      apply decide_eq_false
      split <;> simp
    · rw [List.concat_eq_append, dep_if, if_pos h]
      by_cases hi : i < half n
      · rw [up_low h hi, if_pos hi, ih (half n) (by omega) leaf i q]
        simp
      · rw [up_high h hi, if_neg hi, ih (n - half n) (by omega) leaf (i - half n) q]
        simp
  · rw [up_no h, dep_if, if_neg h]
    cases p <;> simp

/-- each text has its path -/
theorem up_path (l : List ByteArray) : ∀ (i : Nat) (s : ByteArray) (hs : l[i]? = some s), up (leafH s) i l.length (path l i) = (root l, true) := by
  refine lenRec (P := fun l => ∀ (i : Nat) (s : ByteArray) (hs : l[i]? = some s), up (leafH s) i l.length (path l i) = (root l, true)) ?_ l
  intro l ih i s hs
  have hil : i < l.length := (List.getElem?_eq_some_iff.1 hs).1
  by_cases h : 2 ≤ l.length
  · have hk := half_ok h
    have hp := half_pos h
    by_cases hi : i < half l.length
    · have e := ih (l.take (half l.length)) (take_lt h) i s (by rw [List.getElem?_take_of_lt hi]; exact hs)
      rw [List.length_take, Nat.min_eq_left (by omega)] at e
      rw [path_low h hi, up_low h hi, e, root_more h]
    · have e := ih (l.drop (half l.length)) (drop_lt h) (i - half l.length) s (by rw [List.getElem?_drop]; rw [show half l.length + (i - half l.length) = i by omega]; exact hs)
      rw [List.length_drop] at e
      rw [path_high h hi, up_high h hi, e, root_more h]
  · rw [path_no h, up_no h]
    match l, h with
    | [], _ => simp at hil
    | [t], _ =>
      have : i = 0 := by simp at hil; omega
      subst this
      simp at hs
      subst hs
      rw [root_one]
      rfl
    | _ :: _ :: _, h => simp at h

/-- what tells that a list came of its first n (f: more than it has) -/
def growF : Nat → List ByteArray → Nat → Bool → List ByteArray
  | 0, _, _, _ => []
  | f + 1, l, n, whole =>
    if n = l.length then (if whole = true then [] else [root l])
    else if 2 ≤ l.length then
      (if n ≤ half l.length then growF f (l.take (half l.length)) n whole ++ [root (l.drop (half l.length))]
       else growF f (l.drop (half l.length)) (n - half l.length) false ++ [root (l.take (half l.length))])
    else []

theorem growF_any : ∀ (f g : Nat) (l : List ByteArray) (n : Nat) (whole : Bool), l.length < f → l.length < g → growF f l n whole = growF g l n whole := by
  intro f
  induction f with
  | zero => intro g l n whole hf; omega
  | succ f ih =>
    intro g l n whole hf hg
    cases g with
    | zero => omega
    | succ g =>
      by_cases h : 2 ≤ l.length
      · have h1 := take_lt h
        have h2 := drop_lt h
        rw [growF, growF, if_pos h, if_pos h, ih g (l.take (half l.length)) n whole (by omega) (by omega), ih g (l.drop (half l.length)) (n - half l.length) false (by omega) (by omega)]
      · rw [growF, growF, if_neg h, if_neg h]

def grow (l : List ByteArray) (n : Nat) (whole : Bool) : List ByteArray := growF (l.length + 1) l n whole

theorem grow_if (l : List ByteArray) (n : Nat) (whole : Bool) : grow l n whole = if n = l.length then (if whole = true then [] else [root l])
    else if 2 ≤ l.length then
      (if n ≤ half l.length then grow (l.take (half l.length)) n whole ++ [root (l.drop (half l.length))]
       else grow (l.drop (half l.length)) (n - half l.length) false ++ [root (l.take (half l.length))])
    else [] := by
  unfold grow
  by_cases h : 2 ≤ l.length
  · have h1 := take_lt h
    have h2 := drop_lt h
    rw [growF, if_pos h, if_pos h, growF_any l.length ((l.take (half l.length)).length + 1) (l.take (half l.length)) n whole (by omega) (by omega), growF_any l.length ((l.drop (half l.length)).length + 1) (l.drop (half l.length)) (n - half l.length) false (by omega) (by omega)]
  · rw [growF, if_neg h, if_neg h]

theorem grow_all (l : List ByteArray) (whole : Bool) : grow l l.length whole = if whole = true then [] else [root l] := by rw [grow_if, if_pos rfl]

theorem grow_low {l : List ByteArray} (h : 2 ≤ l.length) {n : Nat} (hn : n ≠ l.length) (hi : n ≤ half l.length) (whole : Bool) : grow l n whole = grow (l.take (half l.length)) n whole ++ [root (l.drop (half l.length))] := by
  rw [grow_if, if_neg hn, if_pos h, if_pos hi]

theorem grow_high {l : List ByteArray} (h : 2 ≤ l.length) {n : Nat} (hn : n ≠ l.length) (hi : ¬ n ≤ half l.length) (whole : Bool) : grow l n whole = grow (l.drop (half l.length)) (n - half l.length) false ++ [root (l.take (half l.length))] := by
  rw [grow_if, if_neg hn, if_pos h, if_neg hi]

theorem grow_pos {l : List ByteArray} {n : Nat} (h1 : 1 ≤ n) (hn : n < l.length) (whole : Bool) : 0 < (grow l n whole).length := by
  have h : 2 ≤ l.length := by omega
  by_cases hi : n ≤ half l.length
  · rw [grow_low h (by omega) hi]; simp
  · rw [grow_high h (by omega) hi]; simp

/-- how many parts it has (f: more than m) -/
def gdepF : Nat → Nat → Nat → Bool → Nat
  | 0, _, _, _ => 0
  | f + 1, n, m, whole =>
    if n = m then (if whole = true then 0 else 1)
    else if 2 ≤ m then (if n ≤ half m then gdepF f n (half m) whole + 1 else gdepF f (n - half m) (m - half m) false + 1) else 0

theorem gdepF_any : ∀ (f g n m : Nat) (whole : Bool), m < f → m < g → gdepF f n m whole = gdepF g n m whole := by
  intro f
  induction f with
  | zero => intro g n m whole hf; omega
  | succ f ih =>
    intro g n m whole hf hg
    cases g with
    | zero => omega
    | succ g =>
      by_cases h : 2 ≤ m
      · have h1 := (half_ok h).2.1
        have h2 := half_pos h
        rw [gdepF, gdepF, if_pos h, if_pos h, ih g n (half m) whole (by omega) (by omega), ih g (n - half m) (m - half m) false (by omega) (by omega)]
      · rw [gdepF, gdepF, if_neg h, if_neg h]

def gdep (n m : Nat) (whole : Bool) : Nat := gdepF (m + 1) n m whole

theorem gdep_if (n m : Nat) (whole : Bool) : gdep n m whole = if n = m then (if whole = true then 0 else 1)
    else if 2 ≤ m then (if n ≤ half m then gdep n (half m) whole + 1 else gdep (n - half m) (m - half m) false + 1) else 0 := by
  unfold gdep
  by_cases h : 2 ≤ m
  · have h1 := (half_ok h).2.1
    have h2 := half_pos h
    rw [gdepF, if_pos h, if_pos h, gdepF_any m (half m + 1) n (half m) whole (by omega) (by omega), gdepF_any m (m - half m + 1) (n - half m) (m - half m) false (by omega) (by omega)]
  · rw [gdepF, if_neg h, if_neg h]

theorem grow_len (l : List ByteArray) : ∀ (n : Nat) (whole : Bool), (grow l n whole).length = gdep n l.length whole := by
  refine lenRec (P := fun l => ∀ (n : Nat) (whole : Bool), (grow l n whole).length = gdep n l.length whole) ?_ l
  intro l ih n whole
  by_cases hn : n = l.length
  · subst hn
    rw [grow_all, gdep_if, if_pos rfl]
    cases whole <;> rfl
  · by_cases h : 2 ≤ l.length
    · have hk := half_ok h
      have hp := half_pos h
      rw [gdep_if, if_neg hn, if_pos h]
      by_cases hi : n ≤ half l.length
      · rw [grow_low h hn hi, if_pos hi, List.length_append, ih (l.take (half l.length)) (take_lt h) n whole, List.length_take, Nat.min_eq_left (by omega)]
        rfl
      · rw [grow_high h hn hi, if_neg hi, List.length_append, ih (l.drop (half l.length)) (drop_lt h) (n - half l.length) false, List.length_drop]
        rfl
    · rw [grow_if, if_neg hn, if_neg h, gdep_if, if_neg hn, if_neg h]
      rfl

/-- the roots of the first n and of all m over such a path; false: it has not as many as it must (f: more than m) -/
def grownF : Nat → Nat → Nat → Bool → ByteArray → List ByteArray → ByteArray × ByteArray × Bool
  | 0, _, _, _, _, _ => (⟨#[]⟩, ⟨#[]⟩, false)
  | f + 1, n, m, whole, a, p =>
    if n = m then
      (if whole = true then (a, a, p.isEmpty)
       else if p.length = 1 then (p.headD ⟨#[]⟩, p.headD ⟨#[]⟩, true) else (⟨#[]⟩, ⟨#[]⟩, false))
    else if 2 ≤ m then
      (match p.getLast? with
       | none => (⟨#[]⟩, ⟨#[]⟩, false)
       | some last =>
         if n ≤ half m then ((grownF f n (half m) whole a p.dropLast).1, nodeH (grownF f n (half m) whole a p.dropLast).2.1 last, (grownF f n (half m) whole a p.dropLast).2.2)
         else (nodeH last (grownF f (n - half m) (m - half m) false a p.dropLast).1, nodeH last (grownF f (n - half m) (m - half m) false a p.dropLast).2.1, (grownF f (n - half m) (m - half m) false a p.dropLast).2.2))
    else (⟨#[]⟩, ⟨#[]⟩, false)

theorem grownF_any : ∀ (f g n m : Nat) (whole : Bool) (a : ByteArray) (p : List ByteArray), m < f → m < g → grownF f n m whole a p = grownF g n m whole a p := by
  intro f
  induction f with
  | zero => intro g n m whole a p hf; omega
  | succ f ih =>
    intro g n m whole a p hf hg
    cases g with
    | zero => omega
    | succ g =>
      by_cases h : 2 ≤ m
      · have h1 := (half_ok h).2.1
        have h2 := half_pos h
        rw [grownF, grownF, if_pos h, if_pos h, ih g n (half m) whole a p.dropLast (by omega) (by omega), ih g (n - half m) (m - half m) false a p.dropLast (by omega) (by omega)]
      · rw [grownF, grownF, if_neg h, if_neg h]

def grown (n m : Nat) (whole : Bool) (a : ByteArray) (p : List ByteArray) : ByteArray × ByteArray × Bool := grownF (m + 1) n m whole a p

theorem grown_if (n m : Nat) (whole : Bool) (a : ByteArray) (p : List ByteArray) : grown n m whole a p = if n = m then
      (if whole = true then (a, a, p.isEmpty)
       else if p.length = 1 then (p.headD ⟨#[]⟩, p.headD ⟨#[]⟩, true) else (⟨#[]⟩, ⟨#[]⟩, false))
    else if 2 ≤ m then
      (match p.getLast? with
       | none => (⟨#[]⟩, ⟨#[]⟩, false)
       | some last =>
         if n ≤ half m then ((grown n (half m) whole a p.dropLast).1, nodeH (grown n (half m) whole a p.dropLast).2.1 last, (grown n (half m) whole a p.dropLast).2.2)
         else (nodeH last (grown (n - half m) (m - half m) false a p.dropLast).1, nodeH last (grown (n - half m) (m - half m) false a p.dropLast).2.1, (grown (n - half m) (m - half m) false a p.dropLast).2.2))
    else (⟨#[]⟩, ⟨#[]⟩, false) := by
  unfold grown
  by_cases h : 2 ≤ m
  · have h1 := (half_ok h).2.1
    have h2 := half_pos h
    rw [grownF, if_pos h, if_pos h, grownF_any m (half m + 1) n (half m) whole a p.dropLast (by omega) (by omega), grownF_any m (m - half m + 1) (n - half m) (m - half m) false a p.dropLast (by omega) (by omega)]
  · rw [grownF, if_neg h, if_neg h]

theorem grown_whole (m : Nat) (a : ByteArray) (p : List ByteArray) : grown m m true a p = (a, a, p.isEmpty) := by rw [grown_if, if_pos rfl, if_pos rfl]

theorem grown_one (m : Nat) (a x : ByteArray) : grown m m false a [x] = (x, x, true) := by rw [grown_if, if_pos rfl, if_neg (by simp)]; simp

theorem grown_not {m : Nat} (a : ByteArray) {p : List ByteArray} (hp : p.length ≠ 1) : grown m m false a p = (⟨#[]⟩, ⟨#[]⟩, false) := by
  rw [grown_if, if_pos rfl, if_neg (by simp), if_neg hp]

theorem grown_nil {n m : Nat} (hn : n ≠ m) (h : 2 ≤ m) (whole : Bool) (a : ByteArray) : grown n m whole a [] = (⟨#[]⟩, ⟨#[]⟩, false) := by rw [grown_if, if_neg hn, if_pos h]; rfl

theorem grown_low {n m : Nat} (hn : n ≠ m) (h : 2 ≤ m) (hi : n ≤ half m) (whole : Bool) (a last : ByteArray) (p : List ByteArray) :
    grown n m whole a (p ++ [last]) = ((grown n (half m) whole a p).1, nodeH (grown n (half m) whole a p).2.1 last, (grown n (half m) whole a p).2.2) := by
  rw [grown_if, if_neg hn, if_pos h, List.getLast?_append]
  simp only [List.getLast?_singleton, Option.some_or, List.dropLast_concat, if_pos hi]

theorem grown_high {n m : Nat} (hn : n ≠ m) (h : 2 ≤ m) (hi : ¬ n ≤ half m) (whole : Bool) (a last : ByteArray) (p : List ByteArray) :
    grown n m whole a (p ++ [last]) = (nodeH last (grown (n - half m) (m - half m) false a p).1, nodeH last (grown (n - half m) (m - half m) false a p).2.1, (grown (n - half m) (m - half m) false a p).2.2) := by
  rw [grown_if, if_neg hn, if_pos h, List.getLast?_append]
  simp only [List.getLast?_singleton, Option.some_or, List.dropLast_concat, if_neg hi]

theorem grown_len (m : Nat) : ∀ (n : Nat) (whole : Bool) (a : ByteArray) (p : List ByteArray), 1 ≤ n → n ≤ m → (grown n m whole a p).2.2 = decide (p.length = gdep n m whole) := by
  refine natRec (P := fun m => ∀ (n : Nat) (whole : Bool) (a : ByteArray) (p : List ByteArray), 1 ≤ n → n ≤ m → (grown n m whole a p).2.2 = decide (p.length = gdep n m whole)) ?_ m
  intro m ih n whole a p h1 hnm
  by_cases hn : n = m
  · subst hn
    rw [gdep_if, if_pos rfl]
    cases whole
    · by_cases hp : p.length = 1
      · obtain ⟨x, rfl⟩ := List.length_eq_one_iff.1 hp
        rw [grown_one]
        simp
      · rw [grown_not a hp]
        simp [hp]
    · rw [grown_whole]
      cases p <;> simp
  · have h : 2 ≤ m := by omega
    have hk := half_ok h
    have hp := half_pos h
    rcases List.eq_nil_or_concat p with rfl | ⟨q, last, rfl⟩
    · rw [grown_nil hn h, gdep_if, if_neg hn, if_pos h]
      symm
      apply decide_eq_false
      split <;> simp
    · rw [List.concat_eq_append, gdep_if, if_neg hn, if_pos h]
      by_cases hi : n ≤ half m
      · rw [grown_low hn h hi, if_pos hi, ih (half m) (by omega) n whole a q h1 hi]
        simp
      · rw [grown_high hn h hi, if_neg hi, ih (m - half m) (by omega) (n - half m) false a q (by omega) (by omega)]
        simp

/-- each beginning has its path -/
theorem grown_grow (l : List ByteArray) : ∀ (n : Nat) (whole : Bool) (a : ByteArray) (h1 : 1 ≤ n) (hn : n ≤ l.length) (ha : whole = true → a = root (l.take n)),
    grown n l.length whole a (grow l n whole) = (root (l.take n), root l, true) := by
  refine lenRec (P := fun l => ∀ (n : Nat) (whole : Bool) (a : ByteArray) (h1 : 1 ≤ n) (hn : n ≤ l.length) (ha : whole = true → a = root (l.take n)), grown n l.length whole a (grow l n whole) = (root (l.take n), root l, true)) ?_ l
  intro l ih n whole a h1 hn ha
  by_cases he : n = l.length
  · subst he
    rw [grow_all, List.take_length] at *
    cases whole
    · exact grown_one _ _ _
    · rw [if_pos rfl, grown_whole, ha rfl]
      rfl
  · have h : 2 ≤ l.length := by omega
    have hk := half_ok h
    have hp := half_pos h
    by_cases hi : n ≤ half l.length
    · have ht : (l.take (half l.length)).take n = l.take n := by rw [List.take_take, Nat.min_eq_left hi]
      have e := ih (l.take (half l.length)) (take_lt h) n whole a h1 (by rw [List.length_take]; omega) (by rw [ht]; exact ha)
      rw [List.length_take, Nat.min_eq_left (by omega), ht] at e
      rw [grow_low h he hi, grown_low he h hi, e, root_more h]
    · have e := ih (l.drop (half l.length)) (drop_lt h) (n - half l.length) false a (by omega) (by rw [List.length_drop]; omega) (fun h => by cases h)
      rw [List.length_drop] at e
      rw [grow_high h he hi, grown_high he h hi, e]
      have hln : (l.take n).length = n := by rw [List.length_take]; omega
      have hh := half_same h (by omega) hn
      have e2 : root (l.take n) = nodeH (root (l.take (half l.length))) (root ((l.drop (half l.length)).take (n - half l.length))) := by
        rw [root_more (by rw [hln]; omega), hln, hh, List.take_take, Nat.min_eq_left (by omega), List.drop_take]
      rw [e2, root_more h]

end Go.Proofs.YtbopliahafkecaaDoor.Tr

/- Chapter 6, the specification's side: leaves, nodes, roots. -/
namespace Go.Proofs.YtbopliahafkecaaDoor.Tr
open Go.RowKit Go.Proofs.YtbopliahafkecaaDoor.Mem Go.Proofs.YtbopliahafkecaaDoor.Laws Go.Proofs.YtbopliahafkecaaDoor.Bytes Go.Proofs.YtbopliahafkecaaDoor.Sha
set_option linter.unusedVariables false
set_option linter.unusedSimpArgs false

theorem oneB (w : World) (lo : Nat) (x : Int) (h : lo ≤ w.heap.size) : Own (w.alloc (.cells #[.int .u8 x] 5)) lo (w.alloc (.cells #[.int .u8 x] 5)).heap.size 5 (.slice (some ⟨w.heap.size, 0, none⟩) 1 1) (bs [x]) := by
  exact Own.of (World.ownsRow_lit (e := 5) (base := lo) (size := 1) w #[.int .u8 x] 1 h (by unfold maxLen; omega) rfl)

end Go.Proofs.YtbopliahafkecaaDoor.Tr

/- Chapter 6, the specification's side: roots. -/
namespace Go.Proofs.YtbopliahafkecaaDoor.Tr
open Go.RowKit Go.Proofs.YtbopliahafkecaaDoor.Mem Go.Proofs.YtbopliahafkecaaDoor.Laws Go.Proofs.YtbopliahafkecaaDoor.Bytes Go.Proofs.YtbopliahafkecaaDoor.Sha
set_option linter.unusedVariables false
set_option linter.unusedSimpArgs false

/-- the end of a slice -/
theorem slBack {w : World} {b off n cap : Nat} {cs : List Value} (h : Sl w (.slice (some ⟨b, off, none⟩) n cap) cs) (k : Nat) (hk : k < cs.length) : Sl w (.slice (some ⟨b, off + k, none⟩) (n - k) (cap - k)) (cs.drop k) := by
  obtain ⟨ao', cap', he, hc, hn, hr⟩ := h
  simp only [Value.slice.injEq] at he
  obtain ⟨rfl, rfl, rfl⟩ := he
  have hl : (cs.drop k).length = cs.length - k := by simp
  obtain ⟨b', off', he', hcell⟩ := hr (by omega)
  simp only [Option.some.injEq, Addr.mk.injEq] at he'
  obtain ⟨rfl, rfl, _⟩ := he'
  refine ⟨some ⟨b, off + k, none⟩, cap - k, by rw [hl], by rw [hl]; omega, fun h => (by cases h), fun hp => ⟨b, off + k, rfl, fun j hj => ?_⟩⟩
  rw [Nat.add_assoc, hcell (k + j) (by rw [hl] at hj; omega), List.getElem?_drop]

theorem slForm {w : World} {v : Value} {cs : List Value} (h : Sl w v cs) (hp : 0 < cs.length) : ∃ b off cap, v = .slice (some ⟨b, off, none⟩) cs.length cap ∧ cs.length ≤ cap := by
  obtain ⟨ao, cap, rfl, hc, _, hr⟩ := h
  obtain ⟨b, off, rfl, _⟩ := hr hp
  exact ⟨b, off, cap, rfl, hc⟩

theorem ss_take (l : List ByteArray) (k : Nat) : (ss l).take k = ss (l.take k) := by simp [ss]

theorem ss_drop (l : List ByteArray) (k : Nat) : (ss l).drop k = ss (l.drop k) := by simp [ss]

end Go.Proofs.YtbopliahafkecaaDoor.Tr

/- Chapter 6, the specification's side: paths. -/
namespace Go.Proofs.YtbopliahafkecaaDoor.Tr
open Go.RowKit Go.Proofs.YtbopliahafkecaaDoor.Mem Go.Proofs.YtbopliahafkecaaDoor.Laws Go.Proofs.YtbopliahafkecaaDoor.Bytes Go.Proofs.YtbopliahafkecaaDoor.Sha
set_option linter.unusedVariables false
set_option linter.unusedSimpArgs false

theorem emptyT (w : World) (lo : Nat) (h : lo ≤ w.heap.size) : Own (w.alloc (.cells #[] 9)) lo (w.alloc (.cells #[] 9)).heap.size 9 (.slice (some ⟨w.heap.size, 0, none⟩) 0 0) (ss []) :=
  Own.of (World.ownsRow_lit w #[] 0 h (Nat.zero_le _) rfl)

theorem oneT (s : ByteArray) : ∀ u ∈ [Value.string s], u.oneCell' = true := by
  intro u hu
  simp at hu
  subst hu
  rfl

theorem info9t : (Tryd.prog.info? 9).map (fun i => (i.zero, i.size, i.bytes)) = some (some (.string ⟨#[]⟩), 1, 16) := by kernel_rfl

theorem dep_le (n : Nat) : ∀ i, dep i n ≤ n := by
  refine natRec (P := fun n => ∀ i, dep i n ≤ n) ?_ n
  intro n ih i
  by_cases h : 2 ≤ n
  · have hk := half_ok h
    have hp := half_pos h
    rw [dep_if, if_pos h]
    split
    · have := ih (half n) (by omega) i; omega
    · have := ih (n - half n) (by omega) (i - half n); omega
  · rw [dep_if, if_neg h]; omega

end Go.Proofs.YtbopliahafkecaaDoor.Tr

/- Chapter 6, the specification's side: what tells that a list came of its beginning. -/
namespace Go.Proofs.YtbopliahafkecaaDoor.Tr
open Go.RowKit Go.Proofs.YtbopliahafkecaaDoor.Mem Go.Proofs.YtbopliahafkecaaDoor.Laws Go.Proofs.YtbopliahafkecaaDoor.Bytes Go.Proofs.YtbopliahafkecaaDoor.Sha
set_option linter.unusedVariables false
set_option linter.unusedSimpArgs false

theorem oneS (w : World) (lo : Nat) (x : ByteArray) (h : lo ≤ w.heap.size) : Own (w.alloc (.cells #[.string x] 9)) lo (w.alloc (.cells #[.string x] 9)).heap.size 9 (.slice (some ⟨w.heap.size, 0, none⟩) 1 1) (ss [x]) := by
  exact Own.of (World.ownsRow_lit (e := 9) (base := lo) (size := 1) w #[.string x] 1 h (by unfold maxLen; omega) rfl)

theorem gdep_le (m : Nat) : ∀ n whole, gdep n m whole ≤ m + 1 := by
  refine natRec (P := fun m => ∀ n whole, gdep n m whole ≤ m + 1) ?_ m
  intro m ih n whole
  rw [gdep_if]
  split
  · split <;> omega
  · split
    · rename_i h
      have hk := half_ok h
      have hp := half_pos h
      split
      · have := ih (half m) (by omega) n whole; omega
      · have := ih (m - half m) (by omega) (n - half m) false; omega
    · omega

end Go.Proofs.YtbopliahafkecaaDoor.Tr
