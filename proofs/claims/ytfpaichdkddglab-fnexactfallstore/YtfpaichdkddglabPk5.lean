/- Texts in one: Sha, Sha2, Sha3, Sha4, Sha5, Can, Row. -/
import Derived.Test.YtfpaichdkddglabPk3
import Derived.Test.YtfpaichdkddglabPk4
import Derived.Test.YtfpaichdkddglabPk1
import Derived.Test.YtfpaichdkddglabPk2
import Derived.Deep.RegionLaw
import Derived.Deep.RegionHeld3
/- Contracts of the specification's chapter 2: what is padded, hex digits, and digests, as plain functions of lists of numbers. -/
namespace Go.Proofs.Ytfpaichdkddglab.Sha
open Go.RowKit Go.Proofs.Ytfpaichdkddglab.Mem Go.Proofs.Ytfpaichdkddglab.Laws Go.Proofs.Ytfpaichdkddglab.Bytes
set_option linter.unusedVariables false
set_option linter.unusedSimpArgs false

/-- how many bytes 0 are padded behind n bytes and the byte 128 -/
def zc (n : Nat) : Nat := (120 - (n + 1) % 64) % 64
/-- a number's eight bytes, the highest first -/
def be8 (n : Nat) : List Int := [((n / 2 ^ 56 % 256 : Nat) : Int), ((n / 2 ^ 48 % 256 : Nat) : Int), ((n / 2 ^ 40 % 256 : Nat) : Int), ((n / 2 ^ 32 % 256 : Nat) : Int), ((n / 2 ^ 24 % 256 : Nat) : Int), ((n / 2 ^ 16 % 256 : Nat) : Int), ((n / 2 ^ 8 % 256 : Nat) : Int), ((n % 256 : Nat) : Int)]
def padded (xs : List Int) : List Int := xs ++ [128] ++ List.replicate (zc xs.length) 0 ++ be8 (xs.length * 8)

theorem be8_get (n t : Nat) (ht : t < 8) : (be8 n)[t]? = some ((n : Int) / 2 ^ (56 - 8 * t) % 256) := by
  rcases (show t = 0 ∨ t = 1 ∨ t = 2 ∨ t = 3 ∨ t = 4 ∨ t = 5 ∨ t = 6 ∨ t = 7 by omega) with rfl | rfl | rfl | rfl | rfl | rfl | rfl | rfl <;> simp [be8]

theorem one_byte (x : Int) : ∀ u ∈ [Value.int .u8 x], u.oneCell' = true := by
  intro u hu
  rw [List.mem_singleton] at hu
  rw [hu]
  rfl

theorem Own.emptyB (w : World) (lo : Nat) (h : lo ≤ w.heap.size) : Own (w.alloc (.cells #[] 5)) lo (w.alloc (.cells #[] 5)).heap.size 5 (.slice (some ⟨w.heap.size, 0, none⟩) 0 0) (bs []) :=
  Own.of (World.ownsRow_lit w #[] 0 h (Nat.zero_le _) rfl)

/-- a hex digit -/
def hexd (d : Int) : Int := if d < 10 then 48 + d else 87 + d
def hexs (xs : List Int) : List Int := xs.flatMap fun c => [hexd (c / 16), hexd (c % 16)]
theorem hexs_app (xs ys : List Int) : hexs (xs ++ ys) = hexs xs ++ hexs ys := by simp [hexs]
theorem hexs_one (c : Int) : hexs [c] = [hexd (c / 16), hexd (c % 16)] := by simp [hexs]
theorem hexs_len (xs : List Int) : (hexs xs).length = 2 * xs.length := by
  induction xs with
  | nil => rfl
  | cons x r ih => rw [show x :: r = [x] ++ r from rfl, hexs_app, hexs_one]; simp [ih]; omega
def lit16 : ByteArray := ⟨#[48, 49, 50, 51, 52, 53, 54, 55, 56, 57, 97, 98, 99, 100, 101, 102]⟩

theorem lit_get (d : Int) (h0 : 0 ≤ d) (h1 : d < 16) (hp : d.toNat < (⟨#[48, 49, 50, 51, 52, 53, 54, 55, 56, 57, 97, 98, 99, 100, 101, 102]⟩ : ByteArray).size) :
    ((((⟨#[48, 49, 50, 51, 52, 53, 54, 55, 56, 57, 97, 98, 99, 100, 101, 102]⟩ : ByteArray)[d.toNat]'hp).toNat : Nat) : Int) = hexd d := by
  rcases (show d = 0 ∨ d = 1 ∨ d = 2 ∨ d = 3 ∨ d = 4 ∨ d = 5 ∨ d = 6 ∨ d = 7 ∨ d = 8 ∨ d = 9 ∨ d = 10 ∨ d = 11 ∨ d = 12 ∨ d = 13 ∨ d = 14 ∨ d = 15 by omega) with rfl | rfl | rfl | rfl | rfl | rfl | rfl | rfl | rfl | rfl | rfl | rfl | rfl | rfl | rfl | rfl <;> rfl

theorem Sl.two (w : World) (a b : Int) (t : TypeId) : Sl (w.alloc (.cells #[.int .u8 a, .int .u8 b] t)) (.slice (some ⟨w.heap.size, 0, none⟩) 2 2) (bs [a, b]) := by
  refine ⟨some ⟨w.heap.size, 0, none⟩, 2, rfl, by simp [bs], fun h => (by cases h), fun _ => ⟨w.heap.size, 0, rfl, fun j hj => ?_⟩⟩
  rw [cell_of_row _ w.heap.size (0 + j) #[.int .u8 a, .int .u8 b] t (0, 0) (heap_alloc_new w _)]
  have h2 : j = 0 ∨ j = 1 := by simp [bs] at hj; omega
  rcases h2 with rfl | rfl <;> simp [bs]

theorem sb_get (s : ByteArray) (k : Nat) (h : k < s.size) : (sb s)[k]? = some ((s[k]'h).toNat : Int) := by
  have h2 : k < s.data.toList.length := by simpa using h
  simp only [sb, List.getElem?_map, List.getElem?_eq_getElem h2, Option.map_some]
  rfl

theorem hexd_byt {d : Int} (h0 : 0 ≤ d) (h1 : d < 16) : 0 ≤ hexd d ∧ hexd d ≤ 255 := by unfold hexd; split <;> omega
theorem hexs_byt (xs : List Int) (h : Byt xs) : Byt (hexs xs) := by
  intro x hx
  obtain ⟨c, hc, hx2⟩ := List.mem_flatMap.1 hx
  have hb := h c hc
  simp only [List.mem_cons, List.not_mem_nil, or_false] at hx2
  rcases hx2 with rfl | rfl
  · exact hexd_byt (by omega) (by omega)
  · exact hexd_byt (by omega) (by omega)

theorem conv_none (ao : Option Addr) (c : Nat) (w : World) : (convert 27 9 (.slice ao 0 c)).run Try.prog w = .ok (.string ⟨#[]⟩) w := by
  cases ao with
  | none => rw [run_convert_bytes_string w 27 9 5 none 0 c Try.underlying27 Try.underlying5 Try.underlying9]; rfl
  | some a => exact run_convert_bytes_back w 27 9 5 a c [] Try.underlying27 Try.underlying5 Try.underlying9 (fun j hj => by simp at hj)

theorem conv_sl {w : World} {v : Value} {zs : List Int} (h : Sl w v (bs zs)) (hb : Byt zs) : (convert 27 9 v).run Try.prog w = .ok (.string (Plain.txt zs)) w := by
  obtain ⟨ao, cap, rfl, hc, _, hr⟩ := h
  rw [bs_len] at hr hc
  rw [bs_len]
  by_cases h0 : zs.length = 0
  · have hz : zs = [] := List.eq_nil_of_length_eq_zero h0
    subst hz
    exact conv_none ao cap w
  · obtain ⟨b, off, rfl, hcell⟩ := hr (by omega)
    have hl : (Plain.u8s zs).length = zs.length := Plain.u8s_len zs
    have h := run_convert_bytes_back (P := Try.prog) w 27 9 5 ⟨b, off, none⟩ cap (Plain.u8s zs) Try.underlying27 Try.underlying5 Try.underlying9 (fun j hj => by
      rw [hl] at hj
      rw [Addr.add_lit, hcell j hj, bs_get]
      have hx : zs[j]? = some (zs[j]'hj) := by simp
      have hy := hb.at hx
      rw [hx]
      simp only [Plain.u8s, List.getElem_map, Option.map_some]
      rw [Plain.u8_back hy])
    rw [hl] at h
    exact h

/-- a hex digit's number; below 0 where it is none -/
def undig (c : Int) : Int := if 48 ≤ c ∧ c ≤ 57 then c - 48 else if 97 ≤ c ∧ c ≤ 102 then c - 87 else -1
theorem undig_bd (c : Int) : -1 ≤ undig c ∧ undig c ≤ 15 := by unfold undig; split <;> (try split) <;> omega

/-- pairs of hex digits as bytes -/
def unhex : List Int → Option (List Int)
  | [] => some []
  | [_] => none
  | a :: b :: r => if undig a < 0 ∨ undig b < 0 then none else (unhex r).map fun l => (undig a * 16 + undig b) :: l

/-- What UnHex answers. -/
def unHex (s : ByteArray) : ByteArray × Bool := match unhex (sb s) with
  | some l => (Plain.txt l, true)
  | none => (⟨#[]⟩, false)
theorem unHex_none {s : ByteArray} (h : unhex (sb s) = none) : unHex s = (⟨#[]⟩, false) := by unfold unHex; rw [h]
theorem unHex_some {s : ByteArray} {l : List Int} (h : unhex (sb s) = some l) : unHex s = (Plain.txt l, true) := by unfold unHex; rw [h]

theorem unhex_bad {a b : Int} {r : List Int} (h : undig a < 0 ∨ undig b < 0) : unhex (a :: b :: r) = none := by rw [unhex, if_pos h]
theorem unhex_good {a b : Int} {r : List Int} (h : ¬ (undig a < 0 ∨ undig b < 0)) : unhex (a :: b :: r) = (unhex r).map fun l => (undig a * 16 + undig b) :: l := by rw [unhex, if_neg h]

theorem drop_two {l : List Int} {k : Nat} {a b : Int} (h1 : l[k]? = some a) (h2 : l[k + 1]? = some b) : l.drop k = a :: b :: l.drop (k + 2) := by
  obtain ⟨hk, rfl⟩ := List.getElem?_eq_some_iff.1 h1
  obtain ⟨hk2, rfl⟩ := List.getElem?_eq_some_iff.1 h2
  rw [List.drop_eq_getElem_cons hk, List.drop_eq_getElem_cons hk2]

theorem ret2 {s s' : ByteArray} {c c' : Bool} (h1 : s = s') (h2 : c = c') : Ending.returned (.tuple #[.string s, .bool c]) = .returned (.tuple #[.string s', .bool c']) := by rw [h1, h2]

end Go.Proofs.Ytfpaichdkddglab.Sha

/- Contracts of the specification's digests: turns, the words of a block, a block, and the whole, as plain functions of natural numbers. -/
namespace Go.Proofs.Ytfpaichdkddglab.Sha
open Go.RowKit Go.Proofs.Ytfpaichdkddglab.Mem Go.Proofs.Ytfpaichdkddglab.Laws Go.Proofs.Ytfpaichdkddglab.Bytes
set_option linter.unusedVariables false
set_option linter.unusedSimpArgs false

theorem info3 : (Try.prog.info? 3).map (fun i => (i.zero, i.size, i.bytes)) = some (some (.int .i64 0), 1, 8) := by kernel_rfl

/-- a word turned right by n -/
def turn (x n : Nat) : Nat := (x / 2 ^ n ||| x * 2 ^ (32 - n)) % 4294967296

theorem wraps62 (n : Int) (h0 : 0 ≤ n) (h1 : n < 2 ^ 63) : IntKind.i64.wrap n = n := by rw [IntKind.wrap_i64]; omega

theorem or_nat {a b : Nat} (ha : a < 2 ^ 63) (hb : b < 2 ^ 63) : bits .or .i64 (a : Int) (b : Int) = ((a ||| b : Nat) : Int) := (bits_nat .i64 63 (by decide) wraps62 a b ha hb).2
theorem and_nat {a b : Nat} (ha : a < 2 ^ 63) (hb : b < 2 ^ 63) : bits .and .i64 (a : Int) (b : Int) = ((a &&& b : Nat) : Int) := (bits_nat .i64 63 (by decide) wraps62 a b ha hb).1
theorem xor_nat {a b : Nat} (ha : a < 2 ^ 63) (hb : b < 2 ^ 63) : bits .xor .i64 (a : Int) (b : Int) = ((a ^^^ b : Nat) : Int) := by
  have ha' : a % 2 ^ 64 = a := Nat.mod_eq_of_lt (by omega)
  have hb' : b % 2 ^ 64 = b := Nat.mod_eq_of_lt (by omega)
  have e : bits .xor .i64 (a : Int) (b : Int) = IntKind.i64.wrap (((BitVec.ofInt 64 (a : Int) ^^^ BitVec.ofInt 64 (b : Int)).toNat : Nat) : Int) := rfl
  rw [e, BitVec.ofInt_natCast, BitVec.ofInt_natCast, BitVec.toNat_xor, BitVec.toNat_ofNat, BitVec.toNat_ofNat, ha', hb']
  exact wraps62 _ (Int.natCast_nonneg _) (by have := Nat.xor_lt_two_pow ha hb; omega)
theorem mask_nat {a : Nat} (ha : a < 2 ^ 63) : bits .and .i64 (a : Int) 4294967295 = ((a % 4294967296 : Nat) : Int) := by
  have h := and_nat (b := 4294967295) ha (by decide)
  have e : ((4294967295 : Nat) : Int) = 4294967295 := rfl
  rw [e] at h
  rw [h, show (4294967295 : Nat) = 2 ^ 32 - 1 by decide, Nat.and_two_pow_sub_one_eq_mod]

theorem turn_eq (x n : Nat) (hx : x < 4294967296) (hn1 : 1 ≤ n) (hn2 : n ≤ 31) :
    bits .and .i64 (bits .or .i64 ((x : Int) / 2 ^ n) (wrap64 ((x : Int) * 2 ^ (32 - n)))) 4294967295 = ((turn x n : Nat) : Int) := by
  have hp : (2 : Nat) ^ (32 - n) ≤ 2 ^ 31 := Nat.pow_le_pow_right (by decide) (by omega)
  have hxp : x * 2 ^ (32 - n) ≤ 4294967295 * 2 ^ 31 := Nat.mul_le_mul (by omega) hp
  have e1 : (x : Int) / 2 ^ n = ((x / 2 ^ n : Nat) : Int) := by push_cast; rfl
  have e2 : (x : Int) * 2 ^ (32 - n) = ((x * 2 ^ (32 - n) : Nat) : Int) := by push_cast; rfl
  have hd : x / 2 ^ n ≤ x := Nat.div_le_self _ _
  rw [e2, IntWalk.wrap64_in _ (by omega), e1, or_nat (by omega) (by omega), mask_nat (Nat.or_lt_two_pow (by omega) (by omega))]
  rfl

theorem turn_lt (x n : Nat) : turn x n < 4294967296 := Nat.mod_lt _ (by decide)

/-- natural numbers as cells -/
def ns (l : List Nat) : List Value := l.map fun n : Nat => Value.int .i64 (n : Int)
theorem ns_len (l : List Nat) : (ns l).length = l.length := by simp [ns]
theorem ns_app (l r : List Nat) : ns (l ++ r) = ns l ++ ns r := by simp [ns]
theorem ns_one (l : List Nat) : ∀ u ∈ ns l, u.oneCell' = true := by
  intro u hu
  obtain ⟨_, _, rfl⟩ := List.mem_map.1 hu
  rfl

theorem Own.emptyN (w : World) (lo : Nat) (h : lo ≤ w.heap.size) : Own (w.alloc (.cells #[] 3)) lo (w.alloc (.cells #[] 3)).heap.size 3 (.slice (some ⟨w.heap.size, 0, none⟩) 0 0) (ns []) :=
  Own.of (World.ownsRow_lit w #[] 0 h (Nat.zero_le _) rfl)

/-- the byte at j, and the word of the four bytes from 4 i on -/
def nb (ys : List Int) (j : Nat) : Nat := (ys.getD j 0).toNat
def wd (ys : List Int) (i : Nat) : Nat := ((nb ys (4 * i) * 16777216 ||| nb ys (4 * i + 1) * 65536) ||| nb ys (4 * i + 2) * 256) ||| nb ys (4 * i + 3)

theorem nb_lt {ys : List Int} (h : Byt ys) (j : Nat) : nb ys j < 256 := by
  unfold nb
  by_cases hj : j < ys.length
  · have := h (ys[j]) (List.getElem_mem hj)
    simp [List.getD, hj]
    omega
  · simp [List.getD, show ys.length ≤ j by omega]
theorem wd_bits (a b c d : Nat) (ha : a < 256) (hb : b < 256) (hc : c < 256) (hd : d < 256) :
    bits .or .i64 (bits .or .i64 (bits .or .i64 ((a : Int) * 16777216) ((b : Int) * 65536)) ((c : Int) * 256)) (d : Int) = ((((a * 16777216 ||| b * 65536) ||| c * 256) ||| d : Nat) : Int) := by
  have e1 : (a : Int) * 16777216 = ((a * 16777216 : Nat) : Int) := by omega
  have e2 : (b : Int) * 65536 = ((b * 65536 : Nat) : Int) := by omega
  have e3 : (c : Int) * 256 = ((c * 256 : Nat) : Int) := by omega
  have l1 : a * 16777216 ||| b * 65536 < 2 ^ 32 := Nat.or_lt_two_pow (by omega) (by omega)
  have l2 : (a * 16777216 ||| b * 65536) ||| c * 256 < 2 ^ 32 := Nat.or_lt_two_pow l1 (by omega)
  rw [e1, e2, e3, or_nat (by omega) (by omega), or_nat (by omega) (by omega), or_nat (by omega) (by omega)]

theorem wd_lt {ys : List Int} (h : Byt ys) (i : Nat) : wd ys i < 4294967296 := by
  unfold wd
  have h0 := nb_lt h (4 * i)
  have h1 := nb_lt h (4 * i + 1)
  have h2 := nb_lt h (4 * i + 2)
  have h3 := nb_lt h (4 * i + 3)
  have l1 : nb ys (4 * i) * 16777216 ||| nb ys (4 * i + 1) * 65536 < 2 ^ 32 := Nat.or_lt_two_pow (by omega) (by omega)
  have l2 := Nat.or_lt_two_pow l1 (show nb ys (4 * i + 2) * 256 < 2 ^ 32 by omega)
  exact Nat.or_lt_two_pow l2 (by omega)

theorem byte_cell {w : World} {ys : List Int} {b off : Nat} (hby : Byt ys) (h : ∀ j, j < ys.length → w.cell? ⟨b, off + j, none⟩ = (bs ys)[j]?) (j : Nat) (hj : j < ys.length) : w.cell? ⟨b, off + j, none⟩ = some (.int .u8 (nb ys j : Nat)) := by
  rw [h j hj, bs_get]
  have hb := hby (ys[j]) (List.getElem_mem hj)
  simp [nb, List.getD, hj]
  omega

def s0w (x : Nat) : Nat := (turn x 7 ^^^ turn x 18) ^^^ x / 8
def s1w (x : Nat) : Nat := (turn x 17 ^^^ turn x 19) ^^^ x / 1024
/-- the next word behind 16 or more -/
def nxt (l : List Nat) : Nat := (l.getD (l.length - 16) 0 + s0w (l.getD (l.length - 15) 0) + l.getD (l.length - 7) 0 + s1w (l.getD (l.length - 2) 0)) % 4294967296
def ext : Nat → List Nat → List Nat
  | 0, l => l
  | n + 1, l => ext n (l ++ [nxt l])
/-- the 64 words of a block -/
def words (ys : List Int) : List Nat := ext 48 ((List.range 16).map (wd ys))

theorem s0w_lt {x : Nat} (h : x < 4294967296) : s0w x < 4294967296 := by
  unfold s0w
  have h1 : turn x 7 ^^^ turn x 18 < 2 ^ 32 := Nat.xor_lt_two_pow (turn_lt _ _) (turn_lt _ _)
  exact Nat.xor_lt_two_pow h1 (by omega)
theorem s1w_lt {x : Nat} (h : x < 4294967296) : s1w x < 4294967296 := by
  unfold s1w
  have h1 : turn x 17 ^^^ turn x 19 < 2 ^ 32 := Nat.xor_lt_two_pow (turn_lt _ _) (turn_lt _ _)
  exact Nat.xor_lt_two_pow h1 (by omega)
theorem s0w_bits {x : Nat} (h : x < 4294967296) : bits .xor .i64 (bits .xor .i64 ((turn x 7 : Nat) : Int) ((turn x 18 : Nat) : Int)) ((x : Int) / 8) = ((s0w x : Nat) : Int) := by
  have t1 := turn_lt x 7
  have t2 := turn_lt x 18
  have h1 : turn x 7 ^^^ turn x 18 < 2 ^ 32 := Nat.xor_lt_two_pow t1 t2
  have e : (x : Int) / 8 = ((x / 8 : Nat) : Int) := by omega
  rw [e, xor_nat (by omega) (by omega), xor_nat (by omega) (by omega)]
  rfl
theorem s1w_bits {x : Nat} (h : x < 4294967296) : bits .xor .i64 (bits .xor .i64 ((turn x 17 : Nat) : Int) ((turn x 19 : Nat) : Int)) ((x : Int) / 1024) = ((s1w x : Nat) : Int) := by
  have t1 := turn_lt x 17
  have t2 := turn_lt x 19
  have h1 : turn x 17 ^^^ turn x 19 < 2 ^ 32 := Nat.xor_lt_two_pow t1 t2
  have e : (x : Int) / 1024 = ((x / 1024 : Nat) : Int) := by omega
  rw [e, xor_nat (by omega) (by omega), xor_nat (by omega) (by omega)]
  rfl

theorem Own.form {w : World} {lo hi : Nat} {e : TypeId} {v : Value} {cs : List Value} (h : Own w lo hi e v cs) (hp : 0 < cs.length) :
    ∃ g cap, v = .slice (some ⟨g, 0, none⟩) cs.length cap ∧ lo ≤ g ∧ g < hi ∧ cs.length ≤ cap ∧ ∀ j, j < cs.length → w.cell? ⟨g, j, none⟩ = cs[j]? := by
  have hsl := h.sl
  obtain ⟨⟨h1, h2⟩, h3⟩ := h
  rcases h2 with ⟨rfl, h0⟩ | ⟨g, cap, cur, rfl, hb, hg, hnc, hcm, hcs, ht⟩
  · omega
  · refine ⟨g, cap, rfl, hb, h3 g rfl, hnc, ?_⟩
    obtain ⟨ao, cap', he, _, _, hr⟩ := hsl
    obtain ⟨b, off, hao, hcell⟩ := hr hp
    simp only [Value.slice.injEq] at he
    rw [← he.1] at hao
    simp only [Option.some.injEq, Addr.mk.injEq, and_true] at hao
    obtain ⟨rfl, rfl⟩ := hao
    intro j hj
    have := hcell j hj
    rw [Nat.zero_add] at this
    exact this
theorem ns_cell {w : World} {g : Nat} {L : List Nat} (h : ∀ j, j < (ns L).length → w.cell? ⟨g, j, none⟩ = (ns L)[j]?) (j : Nat) (hj : j < L.length) : w.cell? ⟨g, j, none⟩ = some (.int .i64 ((L.getD j 0 : Nat) : Int)) := by
  rw [h j (by rw [ns_len]; exact hj)]
  simp [ns, List.getD, hj]
theorem getD_lt {L : List Nat} (h : ∀ x ∈ L, x < 4294967296) (j : Nat) : L.getD j 0 < 4294967296 := by
  by_cases hj : j < L.length
  · simp [List.getD, hj]; exact h _ (List.getElem_mem hj)
  · simp [List.getD, show L.length ≤ j by omega]

theorem Sl.oneD (w : World) (u : Value) (t : TypeId) : Sl ((w.alloc (.cells #[u] t)).drew) (.slice (some ⟨w.heap.size, 0, none⟩) 1 1) [u] := Sl.one w u t
theorem one_int (x : Int) : ∀ u ∈ [Value.int .i64 x], u.oneCell' = true := by
  intro u hu
  rw [List.mem_singleton] at hu
  rw [hu]
  rfl

end Go.Proofs.Ytfpaichdkddglab.Sha

/- Contract of the specification's block: 64 rounds over the words, and the sums with what was before. -/
namespace Go.Proofs.Ytfpaichdkddglab.Sha
open Go.RowKit Go.Proofs.Ytfpaichdkddglab.Mem Go.Proofs.Ytfpaichdkddglab.Laws Go.Proofs.Ytfpaichdkddglab.Bytes
set_option linter.unusedVariables false
set_option linter.unusedSimpArgs false

def big1 (e : Nat) : Nat := (turn e 6 ^^^ turn e 11) ^^^ turn e 25
def big0 (a : Nat) : Nat := (turn a 2 ^^^ turn a 13) ^^^ turn a 22
def ch (e f g : Nat) : Nat := (e &&& f) ^^^ ((4294967295 ^^^ e) &&& g)
def maj (a b c : Nat) : Nat := ((a &&& b) ^^^ (a &&& c)) ^^^ (b &&& c)
def t1 (e f g h k x : Nat) : Nat := h + big1 e + ch e f g + k + x
def t2 (a b c : Nat) : Nat := big0 a + maj a b c
def rnd8 (a b c d e f g h k x : Nat) : List Nat := [(t1 e f g h k x + t2 a b c) % 4294967296, a, b, c, (d + t1 e f g h k x) % 4294967296, e, f, g]
def rnds : List Nat → List Nat → List Nat → List Nat
  | k :: ks, x :: xs, [a, b, c, d, e, f, g, h] => rnds ks xs (rnd8 a b c d e f g h k x)
  | _, _, v => v
/-- a block's eight words out of those before -/
def blk (H : List Nat) (ys : List Int) (K : List Nat) : List Nat := List.zipWith (fun x y => (x + y) % 4294967296) (rnds K (words ys) H) H

theorem xl {a b : Nat} (ha : a < 4294967296) (hb : b < 4294967296) : a ^^^ b < 4294967296 := Nat.xor_lt_two_pow (n := 32) ha hb
theorem al {a b : Nat} (hb : b < 4294967296) : a &&& b < 4294967296 := Nat.lt_of_le_of_lt Nat.and_le_right hb
theorem big1_lt (e : Nat) : big1 e < 4294967296 := xl (xl (turn_lt _ _) (turn_lt _ _)) (turn_lt _ _)
theorem big0_lt (a : Nat) : big0 a < 4294967296 := xl (xl (turn_lt _ _) (turn_lt _ _)) (turn_lt _ _)
theorem ch_lt {e f g : Nat} (hf : f < 4294967296) (hg : g < 4294967296) : ch e f g < 4294967296 := xl (al hf) (al hg)
theorem maj_lt {a b c : Nat} (hb : b < 4294967296) (hc : c < 4294967296) : maj a b c < 4294967296 := xl (xl (al hb) (al hc)) (al hc)

theorem xb {a b : Nat} (ha : a < 4294967296) (hb : b < 4294967296) : bits .xor .i64 (a : Int) (b : Int) = ((a ^^^ b : Nat) : Int) := xor_nat (by omega) (by omega)
theorem ab {a b : Nat} (ha : a < 4294967296) (hb : b < 4294967296) : bits .and .i64 (a : Int) (b : Int) = ((a &&& b : Nat) : Int) := and_nat (by omega) (by omega)
theorem big1_bits (e : Nat) : bits .xor .i64 (bits .xor .i64 ((turn e 6 : Nat) : Int) ((turn e 11 : Nat) : Int)) ((turn e 25 : Nat) : Int) = ((big1 e : Nat) : Int) := by
  rw [xb (turn_lt _ _) (turn_lt _ _), xb (xl (turn_lt _ _) (turn_lt _ _)) (turn_lt _ _)]; rfl
theorem big0_bits (a : Nat) : bits .xor .i64 (bits .xor .i64 ((turn a 2 : Nat) : Int) ((turn a 13 : Nat) : Int)) ((turn a 22 : Nat) : Int) = ((big0 a : Nat) : Int) := by
  rw [xb (turn_lt _ _) (turn_lt _ _), xb (xl (turn_lt _ _) (turn_lt _ _)) (turn_lt _ _)]; rfl
theorem ch_bits {e f g : Nat} (he : e < 4294967296) (hf : f < 4294967296) (hg : g < 4294967296) : bits .xor .i64 (bits .and .i64 (e : Int) (f : Int)) (bits .and .i64 (bits .xor .i64 4294967295 (e : Int)) (g : Int)) = ((ch e f g : Nat) : Int) := by
  have e0 : (4294967295 : Int) = ((4294967295 : Nat) : Int) := rfl
  rw [e0, xb (by omega) he, ab he hf, ab (xl (by omega) he) hg, xb (al hf) (al hg)]; rfl
theorem maj_bits {a b c : Nat} (ha : a < 4294967296) (hb : b < 4294967296) (hc : c < 4294967296) : bits .xor .i64 (bits .xor .i64 (bits .and .i64 (a : Int) (b : Int)) (bits .and .i64 (a : Int) (c : Int))) (bits .and .i64 (b : Int) (c : Int)) = ((maj a b c : Nat) : Int) := by
  rw [ab ha hb, ab ha hc, ab hb hc, xb (al hb) (al hc), xb (xl (al hb) (al hc)) (al hc)]; rfl

/-- the cells of eight words -/
def At8 (w : World) (g : Nat) (a b c d e f q h : Nat) : Prop :=
  w.cell? ⟨g, 0, none⟩ = some (.int .i64 (a : Int)) ∧ w.cell? ⟨g, 1, none⟩ = some (.int .i64 (b : Int)) ∧ w.cell? ⟨g, 2, none⟩ = some (.int .i64 (c : Int)) ∧ w.cell? ⟨g, 3, none⟩ = some (.int .i64 (d : Int)) ∧
  w.cell? ⟨g, 4, none⟩ = some (.int .i64 (e : Int)) ∧ w.cell? ⟨g, 5, none⟩ = some (.int .i64 (f : Int)) ∧ w.cell? ⟨g, 6, none⟩ = some (.int .i64 (q : Int)) ∧ w.cell? ⟨g, 7, none⟩ = some (.int .i64 (h : Int))

theorem at8 {w : World} {g : Nat} {a b c d e f q h : Nat} (hc : ∀ j, j < (ns [a, b, c, d, e, f, q, h]).length → w.cell? ⟨g, j, none⟩ = (ns [a, b, c, d, e, f, q, h])[j]?) : At8 w g a b c d e f q h := by
  refine ⟨?_, ?_, ?_, ?_, ?_, ?_, ?_, ?_⟩
  · exact hc 0 (by simp [ns])
  · exact hc 1 (by simp [ns])
  · exact hc 2 (by simp [ns])
  · exact hc 3 (by simp [ns])
  · exact hc 4 (by simp [ns])
  · exact hc 5 (by simp [ns])
  · exact hc 6 (by simp [ns])
  · exact hc 7 (by simp [ns])

/-- ONE ROUND, as the walk meets it: what the new eight words come to. -/
theorem rnd_own {W : World} {lo : Nat} {a b c d e f q h k x : Nat} {z0 z4 : Int} (h0 : z0 = (((t1 e f q h k x + t2 a b c) % 4294967296 : Nat) : Int)) (h4 : z4 = (((d + t1 e f q h k x) % 4294967296 : Nat) : Int)) (hlo : lo ≤ W.heap.size) :
    Own (W.alloc (.cells #[.int .i64 z0, .int .i64 (a : Int), .int .i64 (b : Int), .int .i64 (c : Int), .int .i64 z4, .int .i64 (e : Int), .int .i64 (f : Int), .int .i64 (q : Int)] 3)) lo
      (W.alloc (.cells #[.int .i64 z0, .int .i64 (a : Int), .int .i64 (b : Int), .int .i64 (c : Int), .int .i64 z4, .int .i64 (e : Int), .int .i64 (f : Int), .int .i64 (q : Int)] 3)).heap.size 3 (.slice (some ⟨W.heap.size, 0, none⟩) 8 8) (ns (rnd8 a b c d e f q h k x)) := by
  subst h0
  subst h4
  exact Own.of (World.ownsRow_lit W _ 8 hlo (by unfold maxLen; omega) rfl)

theorem kcell {w : World} {b off : Nat} {L : List Nat} (h : ∀ j, j < (ns L).length → w.cell? ⟨b, off + j, none⟩ = (ns L)[j]?) (j : Nat) (hj : j < L.length) : w.cell? ⟨b, off + j, none⟩ = some (.int .i64 ((L.getD j 0 : Nat) : Int)) := by
  rw [h j (by rw [ns_len]; exact hj)]
  simp [ns, List.getD, hj]
theorem drop_nat {L : List Nat} {k : Nat} (h : k < L.length) : L.drop k = L.getD k 0 :: L.drop (k + 1) := by
  rw [List.drop_eq_getElem_cons h]; simp [List.getD, h]

theorem ext_len (n : Nat) : ∀ l, (ext n l).length = l.length + n := by
  induction n with
  | zero => intro l; rfl
  | succ n ih => intro l; rw [ext, ih]; simp; omega
theorem words_len (ys : List Int) : (words ys).length = 64 := by unfold words; rw [ext_len]; simp
theorem ext_lt (n : Nat) : ∀ l, (∀ x ∈ l, x < 4294967296) → ∀ x ∈ ext n l, x < 4294967296 := by
  induction n with
  | zero => intro l h; exact h
  | succ n ih =>
    intro l h
    rw [ext]
    refine ih _ (fun x hx => ?_)
    rcases List.mem_append.1 hx with hx | hx
    · exact h x hx
    · rw [List.mem_singleton] at hx; rw [hx]; exact Nat.mod_lt _ (by decide)
theorem words_lt {ys : List Int} (h : Byt ys) : ∀ x ∈ words ys, x < 4294967296 := by
  unfold words
  refine ext_lt 48 _ (fun x hx => ?_)
  obtain ⟨j, _, rfl⟩ := List.mem_map.1 hx
  exact wd_lt h j

theorem zip_step (Z H : List Nat) (m : Nat) (hZ : Z.length = 8) (hH : H.length = 8) (hm : m < 8) :
    ((List.zipWith (fun x y => (x + y) % 4294967296) Z H).take m ++ Z.drop m).set m ((Z.getD m 0 + H.getD m 0) % 4294967296) = (List.zipWith (fun x y => (x + y) % 4294967296) Z H).take (m + 1) ++ Z.drop (m + 1) := by
  apply List.ext_getElem?
  intro j
  have hl : ((List.zipWith (fun x y => (x + y) % 4294967296) Z H).take m).length = m := by simp; omega
  have hl2 : ((List.zipWith (fun x y => (x + y) % 4294967296) Z H).take (m + 1)).length = m + 1 := by simp; omega
  by_cases hj : j = m
  · subst hj
    rw [List.getElem?_set_self (by simp; omega), List.getElem?_append_left (by omega), List.getElem?_take, if_pos (by omega), List.getElem?_zipWith]
    simp [List.getD, hZ, hH, hm]
  · rw [List.getElem?_set_ne (by omega)]
    by_cases hlt : j < m
    · rw [List.getElem?_append_left (by omega), List.getElem?_append_left (by omega), List.getElem?_take, if_pos hlt, List.getElem?_take, if_pos (by omega)]
    · rw [List.getElem?_append_right (by omega), List.getElem?_append_right (by omega), hl, hl2, List.getElem?_drop, List.getElem?_drop]
      congr 1
      omega

end Go.Proofs.Ytfpaichdkddglab.Sha

/- Contract of the specification's digest: of any bytes, the 32 bytes of the eight words behind all blocks. -/
namespace Go.Proofs.Ytfpaichdkddglab.Sha
open Go.RowKit Go.Proofs.Ytfpaichdkddglab.Mem Go.Proofs.Ytfpaichdkddglab.Laws Go.Proofs.Ytfpaichdkddglab.Bytes
set_option linter.unusedVariables false
set_option linter.unusedSimpArgs false

/-- the constants of the cube roots, and the words of the square roots -/
def KC : List Nat := [1116352408, 1899447441, 3049323471, 3921009573, 961987163, 1508970993, 2453635748, 2870763221, 3624381080, 310598401, 607225278, 1426881987, 1925078388, 2162078206, 2614888103, 3248222580, 3835390401, 4022224774, 264347078, 604807628, 770255983, 1249150122, 1555081692, 1996064986, 2554220882, 2821834349, 2952996808, 3210313671, 3336571891, 3584528711, 113926993, 338241895, 666307205, 773529912, 1294757372, 1396182291, 1695183700, 1986661051, 2177026350, 2456956037, 2730485921, 2820302411, 3259730800, 3345764771, 3516065817, 3600352804, 4094571909, 275423344, 430227734, 506948616, 659060556, 883997877, 958139571, 1322822218, 1537002063, 1747873779, 1955562222, 2024104815, 2227730452, 2361852424, 2428436474, 2756734187, 3204031479, 3329325298]
def H0 : List Nat := [1779033703, 3144134277, 1013904242, 2773480762, 1359893119, 2600822924, 528734635, 1541459225]
theorem KC_len : KC.length = 64 := rfl
theorem KC_lt : ∀ x ∈ KC, x < 4294967296 := by decide

theorem H0_lt : ∀ x ∈ H0, x < 4294967296 := by decide

def dblocks : Nat → List Nat → List Int → List Nat
  | 0, H, _ => H
  | n + 1, H, ys => dblocks n (blk H (ys.take 64) KC) (ys.drop 64)
def be4 (x : Nat) : List Int := [((x / 16777216 % 256 : Nat) : Int), ((x / 65536 % 256 : Nat) : Int), ((x / 256 % 256 : Nat) : Int), ((x % 256 : Nat) : Int)]
/-- the digest's 32 bytes -/
def digest (xs : List Int) : List Int := (dblocks ((padded xs).length / 64) H0 (padded xs)).flatMap be4

theorem padded_len (xs : List Int) : (padded xs).length % 64 = 0 := by
  unfold padded zc
  simp [be8]
  omega
theorem padded_le (xs : List Int) : (padded xs).length ≤ xs.length + 73 := by
  unfold padded zc
  simp [be8]
  omega
theorem be8_byt (n : Nat) : Byt (be8 n) := by
  intro x hx
  simp only [be8, List.mem_cons, List.not_mem_nil, or_false] at hx
  omega
theorem padded_byt {xs : List Int} (h : Byt xs) : Byt (padded xs) := by
  unfold padded
  refine ((h.app ?_).app ?_).app (be8_byt _)
  · intro x hx; rw [List.mem_singleton] at hx; omega
  · intro x hx; have := List.eq_of_mem_replicate hx; omega

theorem lit_own (w : World) (lo : Nat) (cs : Array Value) (n : Nat) (L : List Nat) (hn : cs.toList = ns L) (hl : L.length = n) (h : lo ≤ w.heap.size) (hm : n ≤ 1000) : Own (w.alloc (.cells cs 3)) lo (w.alloc (.cells cs 3)).heap.size 3 (.slice (some ⟨w.heap.size, 0, none⟩) n n) (ns L) := by
  have hs : cs.size = n * 1 := by have := congrArg List.length hn; rw [ns_len, hl, Array.length_toList] at this; omega
  have := Own.of (World.ownsRow_lit (e := 3) (base := lo) (size := 1) w cs n h (by unfold maxLen; omega) hs)
  rw [hn] at this
  exact this

theorem flat4 (l : List Nat) : (l.flatMap be4).length = 4 * l.length := by
  induction l with
  | nil => rfl
  | cons x r ih => rw [List.flatMap_cons, List.length_append, ih, List.length_cons]; simp [be4]; omega
theorem be4_byt (x : Nat) : Byt (be4 x) := by
  intro y hy
  simp only [be4, List.mem_cons, List.not_mem_nil, or_false] at hy
  omega
theorem flat_byt (l : List Nat) : Byt (l.flatMap be4) := by
  intro y hy
  obtain ⟨x, _, hx⟩ := List.mem_flatMap.1 hy
  exact be4_byt x y hx
theorem Sl.four (w : World) (a b c d : Int) (t : TypeId) : Sl ((w.alloc (.cells #[.int .u8 a, .int .u8 b, .int .u8 c, .int .u8 d] t)).drew) (.slice (some ⟨w.heap.size, 0, none⟩) 4 4) (bs [a, b, c, d]) := by
  refine ⟨some ⟨w.heap.size, 0, none⟩, 4, rfl, by simp [bs], fun h => (by cases h), fun _ => ⟨w.heap.size, 0, rfl, fun j hj => ?_⟩⟩
  show (w.alloc _).cell? _ = _
  rw [cell_of_row _ w.heap.size (0 + j) #[.int .u8 a, .int .u8 b, .int .u8 c, .int .u8 d] t (0, 0) (heap_alloc_new w _)]
  have h2 : j = 0 ∨ j = 1 ∨ j = 2 ∨ j = 3 := by simp [bs] at hj; omega
  rcases h2 with rfl | rfl | rfl | rfl <;> simp [bs]

theorem len8 {L : List Nat} (h : L.length = 8) : ∃ a b c d e f q r, L = [a, b, c, d, e, f, q, r] := by
  match L, h with
  | [a, b, c, d, e, f, q, r], _ => exact ⟨a, b, c, d, e, f, q, r, rfl⟩
theorem rnds_len (K : List Nat) : ∀ (X v : List Nat), v.length = 8 → (rnds K X v).length = 8 := by
  induction K with
  | nil => intro X v h; rw [rnds]; exact h; intro k ks x xs a b c d e f g h h1; cases h1
  | cons k ks ih =>
    intro X v h
    cases X with
    | nil => rw [rnds]; exact h; intro k ks x xs a b c d e f g h h1 h2; cases h2
    | cons x xs =>
      obtain ⟨a, b, c, d, e, f, q, r, rfl⟩ := len8 h
      rw [rnds]
      exact ih xs _ rfl
theorem blk_len (a b c d e f q h : Nat) (ys : List Int) (K : List Nat) : (blk [a, b, c, d, e, f, q, h] ys K).length = 8 := by
  unfold blk
  rw [List.length_zipWith, rnds_len K _ _ rfl]
  rfl
theorem blk_lt (H : List Nat) (ys : List Int) (K : List Nat) : ∀ x ∈ blk H ys K, x < 4294967296 := by
  intro x hx
  unfold blk at hx
  obtain ⟨j, hj, rfl⟩ := List.getElem_of_mem hx
  rw [List.getElem_zipWith]
  exact Nat.mod_lt _ (by decide)

end Go.Proofs.Ytfpaichdkddglab.Sha

/- Plain facts of digests: 32 bytes, which come back of their hex digits; what is padded begins with what there was. -/
namespace Go.Proofs.Ytfpaichdkddglab.Sha
open Go.Proofs.Ytfpaichdkddglab.Mem Go.Proofs.Ytfpaichdkddglab.Laws

theorem blk_len8 {H : List Nat} (h : H.length = 8) (ys : List Int) (K : List Nat) : (blk H ys K).length = 8 := by
  obtain ⟨a, b, c, d, e, f, q, r, rfl⟩ := len8 h
  exact blk_len a b c d e f q r ys K
theorem dblocks_len (n : Nat) : ∀ (H : List Nat) (ys : List Int), H.length = 8 → (dblocks n H ys).length = 8 := by
  induction n with
  | zero => intro H ys h; exact h
  | succ n ih => intro H ys h; rw [dblocks]; exact ih _ _ (blk_len8 h _ _)
theorem digest_len (xs : List Int) : (digest xs).length = 32 := by
  unfold digest
  rw [flat4, dblocks_len _ _ _ rfl]
theorem digest_byt (xs : List Int) : Byt (digest xs) := flat_byt _

theorem txt_size (l : List Int) : (Plain.txt l).size = l.length := by
  show (Plain.txt l).data.size = _
  simp [Plain.txt, Plain.u8s]
theorem sb_txt {l : List Int} (h : Byt l) : sb (Plain.txt l) = l := by
  unfold sb Plain.txt Plain.u8s
  simp only [List.map_map]
  have e : ∀ x ∈ l, ((fun b : UInt8 => (b.toNat : Int)) ∘ fun x : Int => UInt8.ofNat x.toNat) x = x := fun x hx => Plain.u8_back (h x hx)
  rw [List.map_congr_left e]
  simp

theorem undig_hexd {d : Int} (h0 : 0 ≤ d) (h1 : d < 16) : undig (hexd d) = d := by
  unfold undig hexd
  split
  · rw [if_pos (by omega)]; omega
  · rw [if_neg (by omega), if_pos (by omega)]; omega
theorem unhex_hexs (l : List Int) (h : Byt l) : unhex (hexs l) = some l := by
  induction l with
  | nil => rfl
  | cons c r ih =>
    have hc := h c (List.mem_cons_self ..)
    have e : hexs (c :: r) = hexd (c / 16) :: hexd (c % 16) :: hexs r := by
      rw [show c :: r = [c] ++ r from rfl, hexs_app, hexs_one]; rfl
    have e1 := undig_hexd (d := c / 16) (by omega) (by omega)
    have e2 := undig_hexd (d := c % 16) (by omega) (by omega)
    rw [e, unhex_good (by rw [e1, e2]; omega), ih (fun x hx => h x (List.mem_cons_of_mem _ hx)), e1, e2]
    simp only [Option.map_some, Option.some.injEq, List.cons.injEq, and_true]
    omega
theorem unHex_back {l : List Int} (h : Byt l) : unHex (Plain.txt (hexs l)) = (Plain.txt l, true) :=
  unHex_some (by rw [sb_txt (hexs_byt l h)]; exact unhex_hexs l h)

theorem padded_ge (xs : List Int) : xs.length + 9 ≤ (padded xs).length := by
  simp only [padded, be8, List.length_append, List.length_cons, List.length_nil, List.length_replicate]
  omega
theorem padded_at (xs : List Int) : (padded xs)[xs.length]? = some 128 := by
  unfold padded
  rw [List.append_assoc, List.append_assoc, List.getElem?_append_right (Nat.le_refl _), Nat.sub_self]
  rfl
theorem padded_pre (xs : List Int) (j : Nat) (h : j < xs.length) : (padded xs)[j]? = xs[j]? := by
  unfold padded
  rw [List.append_assoc, List.append_assoc, List.getElem?_append_left h]

end Go.Proofs.Ytfpaichdkddglab.Sha

/- Numbers, texts and lists of texts that are read stand there as they are put; plain facts alone. -/
namespace Go.Proofs.Ytfpaichdkddglab.Can
open Go.RowKit Go.Proofs.Ytfpaichdkddglab.Mem Go.Proofs.Ytfpaichdkddglab.Laws Go.Proofs.Ytfpaichdkddglab.Sha
set_option linter.unusedVariables false
set_option linter.unusedSimpArgs false

theorem dec_canon : ∀ (l : List Int) (k : Nat) (N W n : Int) (k' : Nat), Plain.dec k N W l = some (n, k') → Byt l → ∃ m : Nat, n = N + (m : Int) * W ∧ k' = k + (Plain.enc m).length ∧ l = Plain.enc m ++ l.drop (Plain.enc m).length ∧ (0 < k → 0 < m) := by
  intro l
  induction l with
  | nil => intro k N W n k' h; simp [Plain.dec] at h
  | cons c r ih =>
    intro k N W n k' h hb
    have hc : 0 ≤ c ∧ c ≤ 255 := hb c (by simp)
    rw [Plain.dec] at h
    split at h
    · cases h
    · split at h
      · rename_i h5 h128
        obtain ⟨m, hn, hk, hl, hm⟩ := ih _ _ _ _ _ h (fun x hx => hb x (by simp [hx]))
        have hm0 := hm (by omega)
        obtain ⟨d, hd⟩ : ∃ d : Nat, c = (d : Int) := ⟨c.toNat, by omega⟩
        subst hd
        have e1 : (d % 128 + 128 * m) % 128 + 128 = d := by omega
        have e2 : (d % 128 + 128 * m) / 128 = m := by omega
        have henc : Plain.enc (d % 128 + 128 * m) = (d : Int) :: Plain.enc m := by rw [Plain.enc_step (by omega), e1, e2]
        refine ⟨d % 128 + 128 * m, ?_, ?_, ?_, fun _ => by omega⟩
        · rw [hn]
          have : (((d % 128 + 128 * m : Nat) : Int)) = (d : Int) % 128 + 128 * (m : Int) := by omega
          rw [this, Int.add_mul, Int.add_assoc, Int.mul_comm W 128, ← Int.mul_assoc, Int.mul_comm (m : Int) 128]
        · rw [hk, henc, List.length_cons]; omega
        · rw [henc]
          simp only [List.cons_append, List.length_cons, List.drop_succ_cons]
          rw [← hl]
      · split at h
        · cases h
        · rename_i h5 h128 hbad
          simp only [Option.some.injEq, Prod.mk.injEq] at h
          obtain ⟨rfl, rfl⟩ := h
          obtain ⟨d, hd⟩ : ∃ d : Nat, c = (d : Int) := ⟨c.toNat, by omega⟩
          subst hd
          have hd128 : d < 128 := by omega
          have e : (d : Int) % 128 = (d : Int) := by omega
          refine ⟨d, by rw [e], by rw [Plain.enc_small hd128]; rfl, by rw [Plain.enc_small hd128]; simp, fun hk => ?_⟩
          rw [not_or] at hbad
          rw [e] at hbad
          omega

theorem num_enc {n : Int} {m : Nat} (h : n = (m : Int)) (hm : n ≤ 1000000000) : Puts.num n = Plain.enc m := by
  rw [Plain.num_eq, h, Plain.clamp_size (by omega)]
  simp
theorem dec_bd : ∀ (l : List Int) (k : Nat) (N W n : Int) (k' : Nat), Plain.dec k N W l = some (n, k') → n ≤ 1000000000 := by
  intro l
  induction l with
  | nil => intro k N W n k' h; simp [Plain.dec] at h
  | cons c r ih =>
    intro k N W n k' h
    rw [Plain.dec] at h
    split at h
    · cases h
    · split at h
      · exact ih _ _ _ _ _ h
      · split at h
        · cases h
        · rename_i hbad
          simp only [Option.some.injEq, Prod.mk.injEq] at h
          rw [not_or] at hbad
          omega
/-- a number that is read stands there as it is put -/
theorem getNum_canon {xs : List Int} {a : Nat} {n p : Int} (hb : Byt xs) (h : Plain.getNum xs (a : Int) = (n, p, true)) : ∃ q : Nat, p = (q : Int) ∧ 0 ≤ n ∧ n ≤ 1000000000 ∧ a ≤ xs.length ∧ xs.drop a = Puts.num n ++ xs.drop q := by
  unfold Plain.getNum at h
  split at h
  · rename_i hc
    rw [show ((a : Int)).toNat = a from rfl] at h
    split at h
    · rename_i n' k hd
      simp only [Prod.mk.injEq, and_true] at h
      obtain ⟨rfl, rfl⟩ := h
      obtain ⟨m, hn, hk, hl, _⟩ := dec_canon _ _ _ _ _ _ hd (fun x hx => hb x (List.mem_of_mem_drop hx))
      have h9 := dec_bd _ _ _ _ _ _ hd
      have hn' : n' = (m : Int) := by omega
      refine ⟨a + k, by omega, by omega, h9, by omega, ?_⟩
      rw [num_enc hn' h9]
      have hk' : k = (Plain.enc m).length := by omega
      rw [← List.drop_drop, hk']
      exact hl
    · simp at h
  · simp at h
theorem getText_canon {xs : List Int} {a : Nat} {s : ByteArray} {p : Int} (hb : Byt xs) (h : Plain.getText xs (a : Int) = (s, p, true)) : ∃ q : Nat, p = (q : Int) ∧ s.size ≤ 1000000000 ∧ xs.drop a = Puts.tx s ++ xs.drop q := by
  unfold Plain.getText at h
  split at h
  · rename_i hc
    obtain ⟨n, q, ok, hg⟩ : ∃ n q ok, Plain.getNum xs (a : Int) = (n, q, ok) := ⟨_, _, _, rfl⟩
    rw [hg] at h hc
    simp only at h hc
    obtain ⟨rfl, hc2⟩ := hc
    simp only [Prod.mk.injEq, and_true] at h
    obtain ⟨rfl, rfl⟩ := h
    obtain ⟨q', rfl, hn0, hn9, _, hd⟩ := getNum_canon hb hg
    obtain ⟨m, rfl⟩ : ∃ m : Nat, n = (m : Int) := ⟨n.toNat, by omega⟩
    have hsz : (Plain.txt ((xs.drop ((q' : Int)).toNat).take ((m : Int)).toNat)).size = m := by
      rw [txt_size]
      simp
      omega
    have hsb : sb (Plain.txt ((xs.drop ((q' : Int)).toNat).take ((m : Int)).toNat)) = (xs.drop q').take m := by
      rw [sb_txt (fun x hx => hb x (List.mem_of_mem_drop (List.mem_of_mem_take hx)))]
      rfl
    refine ⟨q' + m, by omega, by omega, ?_⟩
    unfold Puts.tx
    rw [hsz, hsb, hd, List.append_assoc, ← List.drop_drop, List.take_append_drop]
  · simp at h
theorem rd_canon {xs : List Int} (hb : Byt xs) : ∀ (n a : Nat) (l : List ByteArray) (p : Int), Plain.rd xs n (a : Int) = some (l, p) → ∃ q : Nat, p = (q : Int) ∧ l.length = n ∧ xs.drop a = Puts.txs l ++ xs.drop q := by
  intro n
  induction n with
  | zero =>
    intro a l p h
    simp [Plain.rd] at h
    obtain ⟨rfl, rfl⟩ := h
    exact ⟨a, rfl, rfl, rfl⟩
  | succ n ih =>
    intro a l p h
    rw [Plain.rd] at h
    split at h
    · rename_i hok
      obtain ⟨s, q, ok, hg⟩ : ∃ s q ok, Plain.getText xs (a : Int) = (s, q, ok) := ⟨_, _, _, rfl⟩
      rw [hg] at h hok
      simp only at h hok
      subst hok
      obtain ⟨q', rfl, _, hd⟩ := getText_canon hb hg
      rw [Option.map_eq_some_iff] at h
      obtain ⟨⟨l2, q2⟩, h1, h2⟩ := h
      simp only [Prod.mk.injEq] at h2
      obtain ⟨rfl, rfl⟩ := h2
      obtain ⟨q3, hq3, hl3, hd3⟩ := ih _ _ _ h1
      refine ⟨q3, hq3, by simp [hl3], ?_⟩
      rw [hd, hd3]
      simp [Puts.txs]
    · cases h
theorem getTexts_canon {xs : List Int} {a : Nat} {l : List ByteArray} {p : Int} (hb : Byt xs) (h : Plain.getTexts xs (a : Int) = (l, p, true)) : ∃ q : Nat, p = (q : Int) ∧ xs.drop a = Puts.num (l.length : Int) ++ Puts.txs l ++ xs.drop q := by
  unfold Plain.getTexts at h
  split at h
  · rename_i hc
    obtain ⟨n, q, ok, hg⟩ : ∃ n q ok, Plain.getNum xs (a : Int) = (n, q, ok) := ⟨_, _, _, rfl⟩
    rw [hg] at h hc
    simp only at h hc
    obtain ⟨rfl, hc2⟩ := hc
    obtain ⟨q', rfl, hn0, hn9, _, hd⟩ := getNum_canon hb hg
    obtain ⟨m, rfl⟩ : ∃ m : Nat, n = (m : Int) := ⟨n.toNat, by omega⟩
    split at h
    · rename_i l' q2 hr
      simp only [Prod.mk.injEq, and_true] at h
      obtain ⟨rfl, rfl⟩ := h
      obtain ⟨q3, hq3, hl3, hd3⟩ := rd_canon hb _ _ _ _ hr
      refine ⟨q3, hq3, ?_⟩
      have : l'.length = m := by rw [hl3]; rfl
      rw [hd, hd3, this, List.append_assoc]
    · simp at h
  · simp at h

end Go.Proofs.Ytfpaichdkddglab.Can

/- Slices whose elements have several cells: what such a slice reads ('Sn'), what a call owns ('On'), what an append does; no program is named here. -/
namespace Go.Proofs.Ytfpaichdkddglab.Mem
open Go.RowKit
set_option linter.unusedVariables false
set_option linter.unusedSimpArgs false

/-- v is a slice of m elements of n cells each, which hold cs. -/
def Sn (n : Nat) (w : World) (v : Value) (m : Nat) (cs : List Value) : Prop :=
  cs.length = m * n ∧ ∃ (ao : Option Addr) (cap : Nat), v = .slice ao m cap ∧ m ≤ cap ∧ (ao = none → cap = 0) ∧
    (0 < m → ∃ b off, ao = some ⟨b, off, none⟩ ∧ ∀ j, j < cs.length → w.cell? ⟨b, off + j, none⟩ = cs[j]?)

/-- v owns m elements of n cells each, which hold cs, in a block from lo on and below hi. -/
def On (n : Nat) (w : World) (lo hi : Nat) (e : TypeId) (v : Value) (m : Nat) (cs : List Value) : Prop :=
  w.ownsRow lo e n v m cs ∧ ∀ g, v.ownBlock = some g → g < hi

theorem Sn.nil (n : Nat) (w : World) : Sn n w (.slice none 0 0) 0 [] := ⟨by simp, none, 0, rfl, Nat.le_refl _, fun _ => rfl, fun h => by omega⟩

theorem Sn.later {n m : Nat} {w w' : World} {v : Value} {cs : List Value} (h : Sn n w v m cs) (hb : Below w.heap.size w w') : Sn n w' v m cs := by
  obtain ⟨hl, ao, cap, rfl, hc, hn, hr⟩ := h
  refine ⟨hl, ao, cap, rfl, hc, hn, fun hp => ?_⟩
  obtain ⟨b, off, rfl, hcell⟩ := hr hp
  refine ⟨b, off, rfl, fun j hj => ?_⟩
  have hlt : b < w.heap.size := World.block_lt_of_cell? w ⟨b, off + j, none⟩ (u := cs[j]) (by rw [hcell j hj]; simp [hj])
  rw [hb.cell (p := ⟨b, off + j, none⟩) hlt]
  exact hcell j hj
theorem Sn.quiet {n m : Nat} {w : World} {v : Value} {cs : List Value} (h : Sn n w v m cs) (k : Nat) : Sn n (w.drewN k) v m cs := h

/-- the beginning of a slice -/
theorem Sn.front {n m : Nat} {w : World} {ao : Option Addr} {cap : Nat} {cs : List Value} (h : Sn n w (.slice ao m cap) m cs) (k : Nat) (hk : k ≤ m) : Sn n w (.slice ao k cap) k (cs.take (k * n)) := by
  obtain ⟨hl, ao', cap', he, hc, hn, hr⟩ := h
  simp only [Value.slice.injEq] at he
  obtain ⟨rfl, _, rfl⟩ := he
  have hkn : k * n ≤ m * n := Nat.mul_le_mul_right _ hk
  have hl2 : (cs.take (k * n)).length = k * n := by rw [List.length_take, hl]; omega
  refine ⟨hl2, ao, cap, rfl, by omega, hn, fun hp => ?_⟩
  obtain ⟨b, off, rfl, hcell⟩ := hr (by omega)
  refine ⟨b, off, rfl, fun j hj => ?_⟩
  rw [hl2] at hj
  rw [hcell j (by omega), List.getElem?_take, if_pos hj]

/-- where the cells of an element lie -/
theorem Sn.at {n m : Nat} {w : World} {v : Value} {cs : List Value} (h : Sn n w v m cs) {k : Nat} (hk : k < m) : ∃ b off cap, v = .slice (some ⟨b, off, none⟩) m cap ∧ m ≤ cap ∧ ∀ j, j < n → w.cell? ⟨b, off + (k * n + j), none⟩ = cs[k * n + j]? := by
  obtain ⟨hl, ao, cap, rfl, hc, hn, hr⟩ := h
  obtain ⟨b, off, rfl, hcell⟩ := hr (by omega)
  refine ⟨b, off, cap, rfl, hc, fun j hj => hcell _ ?_⟩
  have : (k + 1) * n ≤ m * n := Nat.mul_le_mul_right _ hk
  rw [Nat.add_mul, Nat.one_mul] at this
  omega

theorem On.sn {n m : Nat} {w : World} {lo hi : Nat} {e : TypeId} {v : Value} {cs : List Value} (h : On n w lo hi e v m cs) : Sn n w v m cs := by
  obtain ⟨⟨h1, h2⟩, _⟩ := h
  rcases h2 with ⟨rfl, rfl⟩ | ⟨g, cap, cur, rfl, hb, hg, hnc, hcm, hcs, ht⟩
  · have : cs = [] := List.eq_nil_of_length_eq_zero (by simpa using h1)
    subst this
    exact Sn.nil n w
  · refine ⟨h1, some ⟨g, 0, none⟩, cap, rfl, hnc, fun h => by simp at h, fun _ => ⟨g, 0, rfl, fun j hj => ?_⟩⟩
    rw [Nat.zero_add, cell_of_row w g j cur e (0, 0) hg]
    have : cs[j]? = (cur.toList.take (m * n))[j]? := by rw [ht]
    rw [this, List.getElem?_take, if_pos (by omega)]
    simp

theorem On.keep {n m : Nat} {w w' : World} {lo hi : Nat} {e : TypeId} {v : Value} {cs : List Value} (h : On n w lo hi e v m cs) (hk : ∀ k, lo ≤ k → k < hi → w'.heap[k]? = w.heap[k]?) : On n w' lo hi e v m cs := by
  obtain ⟨⟨h1, h2⟩, h3⟩ := h
  refine ⟨⟨h1, ?_⟩, h3⟩
  rcases h2 with h2 | ⟨g, cap, cur, rfl, hb, hg, r⟩
  · exact .inl h2
  · exact .inr ⟨g, cap, cur, rfl, hb, by rw [hk g hb (h3 g rfl)]; exact hg, r⟩
theorem On.later {n m : Nat} {w w' : World} {lo hi B : Nat} {e : TypeId} {v : Value} {cs : List Value} (h : On n w lo hi e v m cs) (hb : Below B w w') (hB : hi ≤ B) : On n w' lo hi e v m cs :=
  h.keep fun k _ hk => hb.block k (by omega)
theorem On.apart {n m : Nat} {w w' : World} {lo hi l2 h2 : Nat} {e : TypeId} {v : Value} {cs : List Value} (h : On n w lo hi e v m cs) (hb : Apart l2 h2 w w') (hd : hi ≤ l2 ∨ h2 ≤ lo) (hs : hi ≤ w.heap.size) : On n w' lo hi e v m cs :=
  h.keep fun k _ _ => hb.block k (by omega) (by omega)
theorem On.mono {n m : Nat} {w : World} {lo hi lo' hi' : Nat} {e : TypeId} {v : Value} {cs : List Value} (h : On n w lo hi e v m cs) (h1 : lo' ≤ lo) (h2 : hi ≤ hi') : On n w lo' hi' e v m cs := by
  obtain ⟨⟨ha, hb⟩, hc⟩ := h
  refine ⟨⟨ha, ?_⟩, fun g hg => Nat.lt_of_lt_of_le (hc g hg) h2⟩
  rcases hb with hb | ⟨g, cap, cur, rfl, hb, r⟩
  · exact .inl hb
  · exact .inr ⟨g, cap, cur, rfl, by omega, r⟩
theorem On.of {n m : Nat} {w : World} {lo : Nat} {e : TypeId} {v : Value} {cs : List Value} (h : w.ownsRow lo e n v m cs) : On n w lo w.heap.size e v m cs := ⟨h, fun g hg => (h.lt g hg).2⟩
theorem On.quiet {n m : Nat} {w : World} {lo hi : Nat} {e : TypeId} {v : Value} {cs : List Value} (h : On n w lo hi e v m cs) (k : Nat) : On n (w.drewN k) lo hi e v m cs := h
theorem On.alloc {n m : Nat} {w : World} {lo : Nat} {e : TypeId} {v : Value} {cs : List Value} (h : On n w lo w.heap.size e v m cs) (o : Obj) : On n (w.alloc o) lo (w.alloc o).heap.size e v m cs := On.of (h.1.alloc o)
/-- a world that has grown above -/
theorem On.grow {n m : Nat} {w w' : World} {lo : Nat} {e : TypeId} {v : Value} {cs : List Value} (h : On n w lo w.heap.size e v m cs) (hb : Below w.heap.size w w') : On n w' lo w'.heap.size e v m cs :=
  (h.later hb (Nat.le_refl _)).mono (Nat.le_refl _) hb.size
theorem On.nil (n : Nat) (w : World) (lo hi : Nat) (e : TypeId) : On n w lo hi e (.slice none 0 0) 0 [] := ⟨World.ownsRow_nil w lo e n, fun g hg => by simp [Value.ownBlock] at hg⟩
theorem On.lit (n : Nat) (w : World) (lo : Nat) (e : TypeId) (h : lo ≤ w.heap.size) : On n (w.alloc (.cells #[] e)) lo (w.alloc (.cells #[] e)).heap.size e (.slice (some ⟨w.heap.size, 0, none⟩) 0 0) 0 [] :=
  On.of ⟨by simp, .inr ⟨w.heap.size, 0, #[], rfl, h, heap_alloc_new w _, Nat.le_refl _, Nat.zero_le _, by simp, by simp⟩⟩
theorem On.size {n m : Nat} {w : World} {lo hi : Nat} {e : TypeId} {v : Value} {cs : List Value} (h : On n w lo hi e v m cs) : cs.length = m * n := h.1.1
theorem On.slice {n m : Nat} {w : World} {lo hi : Nat} {e : TypeId} {v : Value} {cs : List Value} (h : On n w lo hi e v m cs) : ∃ ao cap, v = .slice ao m cap := by
  obtain ⟨_, ao, cap, rfl, _⟩ := h.sn
  exact ⟨ao, cap, rfl⟩
theorem Own.on {w : World} {lo hi : Nat} {e : TypeId} {v : Value} {cs : List Value} (h : Own w lo hi e v cs) : On 1 w lo hi e v cs.length cs := h

/-- a new row of cells read as one element -/
theorem Sn.one (n : Nat) (w : World) (cs : Array Value) (t : TypeId) (h : cs.size = n) : Sn n (w.alloc (.cells cs t)) (.slice (some ⟨w.heap.size, 0, none⟩) 1 1) 1 cs.toList := by
  refine ⟨by simp [h], some ⟨w.heap.size, 0, none⟩, 1, rfl, by simp, fun h => (by cases h), fun _ => ⟨w.heap.size, 0, rfl, fun j hj => ?_⟩⟩
  rw [cell_of_row _ w.heap.size (0 + j) cs t (0, 0) (heap_alloc_new w _)]
  simp

theorem wpl_appn {P : Program} (n : Nat) (hn0 : 0 < n) (w : World) {ops : Array Oper} {rest : List Oper} {o : Oper} {a : Act} {Q : Exit → Act → World → Prop}
    (hg : o.guard = none) (s x : Operand) (t : TypeId) (hop : o.op = Op.call { callee := Callee.builtin Builtin.append, args := #[s, x], argTypes := #[t, t] })
    (e : TypeId) (i : TypeInfo) (z : Value) (bytes : Nat) (ht : P.underlying t = some (.slice e)) (hi : P.info? e = some i) (hz : i.zero = some z) (hsize : i.size = n) (hby : i.bytes = bytes) (hzs : z.cells.size = n)
    (lo : Nat) (v : Value) (m : Nat) (cs : List Value) (hs : a.eval s = v) (hown : On n w lo w.heap.size e v m cs) (y : Value) (hx : a.eval x = y) (k : Nat) (news : List Value) (hsl : Sn n w y k news)
    (h1 : ∀ u ∈ news, u.oneCell' = true) (h63 : m + k ≤ maxLen) (hb : (m + k) * bytes ≤ 140737488355328) (hlo : lo ≤ w.heap.size)
    (hK : ∀ v' w', On n w' lo w'.heap.size e v' (m + k) (cs ++ news) → Below lo w w' → w.grownBy w' v.ownBlock → wpList P ops Q rest (a.put o.dst v') w') : wpList P ops Q (o :: rest) a w := by
  obtain ⟨hl, ao, cap, rfl, hc, hn, hr⟩ := hsl
  have hblk : ∀ w', w.grownBy w' v.ownBlock → Below lo w w' := fun w' hg => (Below.refl _ _).grown hg hlo (fun k hk => (hown.1.lt k hk).1)
  cases ao with
  | none =>
    have hcap := hn rfl
    have hk0 : k = 0 := by omega
    subst hk0
    have hnil : news = [] := List.eq_nil_of_length_eq_zero (by simpa using hl)
    subst hnil
    subst hcap
    refine wpList_append_own_none hg s x t hop lo e i n ht hi v m cs hs hown.1 hx ?_
    exact hK v w (by simpa using hown) (Below.refl _ _) (World.grownBy.refl _ _)
  | some ad =>
    refine wpList_append_own w hg s x t hop lo e i z n bytes ht hi hz hsize hby hzs hn0 v m cs hs hown.1 ad k cap news hx hl ?_ h1 h63 hb hlo ?_
    · intro j u hj
      have hlt : j < news.length := (List.getElem?_eq_some_iff.1 hj).1
      obtain ⟨b, off, he, hcell⟩ := hr (by
        rcases Nat.eq_zero_or_pos k with h0 | h0
        · subst h0; simp at hl; subst hl; simp at hlt
        · exact h0)
      obtain rfl := Option.some.inj he
      rw [Addr.add_lit, hcell j hlt, hj]
    · intro v' w' ho hgr _
      exact hK v' w' (On.of ho) (hblk w' hgr) hgr

end Go.Proofs.Ytfpaichdkddglab.Mem
