/- Contracts of the specification's digests: turns, the words of a block, a block, and the whole, as plain functions of natural numbers. -/
import Derived.Test.YteemblfjghnooaaSha
namespace Go.Proofs.Yteemblfjghnooaa.Sha
open Go.RowKit Go.Proofs.Yteemblfjghnooaa.Mem Go.Proofs.Yteemblfjghnooaa.Laws Go.Proofs.Yteemblfjghnooaa.Bytes
set_option linter.unusedVariables false
set_option linter.unusedSimpArgs false

theorem info3 : (Try.prog.info? 3).map (fun i => (i.zero, i.size, i.bytes)) = some (some (.int .i64 0), 1, 8) := by kernel_rfl

/-- a word turned right by n -/
def turn (x n : Nat) : Nat := (x / 2 ^ n ||| x * 2 ^ (32 - n)) % 4294967296

theorem wraps62 (n : Int) (h0 : 0 ≤ n) (h1 : n < 2 ^ 63) : IntKind.i64.wrap n = n := by rw [IntKind.wrap_i64]; omega

theorem or_nat {a b : Nat} (ha : a < 2 ^ 63) (hb : b < 2 ^ 63) : bits .or .i64 (a : Int) (b : Int) = ((a ||| b : Nat) : Int) := (bits_nat .i64 63 (by decide) wraps62 a b ha hb).2
theorem and_nat {a b : Nat} (ha : a < 2 ^ 63) (hb : b < 2 ^ 63) : bits .and .i64 (a : Int) (b : Int) = ((a &&& b : Nat) : Int) := (bits_nat .i64 63 (by decide) wraps62 a b ha hb).1
theorem xor_nat {a b : Nat} (ha : a < 2 ^ 63) (hb : b < 2 ^ 63) : bits .xor .i64 (a : Int) (b : Int) = ((a ^^^ b : Nat) : Int) := by
  have ha' : a % 2 ^ 64 = a := Nat.mod_eq_of_lt (by omega)
  have hb' : b % 2 ^ 64 = b := Nat.mod_eq_of_lt (by omega)
  have e : bits .xor .i64 (a : Int) (b : Int) = IntKind.i64.wrap (((BitVec.ofInt 64 (a : Int) ^^^ BitVec.ofInt 64 (b : Int)).toNat : Nat) : Int) := rfl
  rw [e, BitVec.ofInt_natCast, BitVec.ofInt_natCast, BitVec.toNat_xor, BitVec.toNat_ofNat, BitVec.toNat_ofNat, ha', hb']
  exact wraps62 _ (Int.natCast_nonneg _) (by have := Nat.xor_lt_two_pow ha hb; omega)
theorem mask_nat {a : Nat} (ha : a < 2 ^ 63) : bits .and .i64 (a : Int) 4294967295 = ((a % 4294967296 : Nat) : Int) := by
  have h := and_nat (b := 4294967295) ha (by decide)
  have e : ((4294967295 : Nat) : Int) = 4294967295 := rfl
  rw [e] at h
  rw [h, show (4294967295 : Nat) = 2 ^ 32 - 1 by decide, Nat.and_two_pow_sub_one_eq_mod]

theorem turn_eq (x n : Nat) (hx : x < 4294967296) (hn1 : 1 ≤ n) (hn2 : n ≤ 31) :
    bits .and .i64 (bits .or .i64 ((x : Int) / 2 ^ n) (wrap64 ((x : Int) * 2 ^ (32 - n)))) 4294967295 = ((turn x n : Nat) : Int) := by
  have hp : (2 : Nat) ^ (32 - n) ≤ 2 ^ 31 := Nat.pow_le_pow_right (by decide) (by omega)
  have hxp : x * 2 ^ (32 - n) ≤ 4294967295 * 2 ^ 31 := Nat.mul_le_mul (by omega) hp
  have e1 : (x : Int) / 2 ^ n = ((x / 2 ^ n : Nat) : Int) := by push_cast; rfl
  have e2 : (x : Int) * 2 ^ (32 - n) = ((x * 2 ^ (32 - n) : Nat) : Int) := by push_cast; rfl
  have hd : x / 2 ^ n ≤ x := Nat.div_le_self _ _
  rw [e2, IntWalk.wrap64_in _ (by omega), e1, or_nat (by omega) (by omega), mask_nat (Nat.or_lt_two_pow (by omega) (by omega))]
  rfl

theorem turn_lt (x n : Nat) : turn x n < 4294967296 := Nat.mod_lt _ (by decide)

set_option maxRecDepth 1000000 in
set_option maxHeartbeats 400000 in
theorem turn_spec (w : World) (x n : Nat) (hx : x < 4294967296) (hn1 : 1 ≤ n) (hn2 : n ≤ 31) :
    Calls Try.prog 79 #[.int .i64 (x : Int), .int .i64 (n : Int)] w fun e w' => e = .returned (.int .i64 (turn x n : Nat)) ∧ w = w' := by
  go_enter Try.func79, Try.ntmps79
  go_wp2
  go_ret
  exact ⟨congrArg (fun z => Ending.returned (.int .i64 z)) (turn_eq x n hx hn1 hn2), rfl⟩

theorem turn_at (w : World) (x n : Nat) (k : Int) (hk : k = (n : Int)) (hx : x < 4294967296) (hn1 : 1 ≤ n) (hn2 : n ≤ 31) :
    Calls Try.prog 79 #[.int .i64 (x : Int), .int .i64 k] w fun e w' => e = .returned (.int .i64 (turn x n : Nat)) ∧ w = w' := by
  rw [hk]; exact turn_spec w x n hx hn1 hn2

/-- natural numbers as cells -/
def ns (l : List Nat) : List Value := l.map fun n : Nat => Value.int .i64 (n : Int)
theorem ns_len (l : List Nat) : (ns l).length = l.length := by simp [ns]
theorem ns_app (l r : List Nat) : ns (l ++ r) = ns l ++ ns r := by simp [ns]
theorem ns_one (l : List Nat) : ∀ u ∈ ns l, u.oneCell' = true := by
  intro u hu
  obtain ⟨_, _, rfl⟩ := List.mem_map.1 hu
  rfl

theorem Own.emptyN (w : World) (lo : Nat) (h : lo ≤ w.heap.size) : Own (w.alloc (.cells #[] 3)) lo (w.alloc (.cells #[] 3)).heap.size 3 (.slice (some ⟨w.heap.size, 0, none⟩) 0 0) (ns []) :=
  Own.of (World.ownsRow_lit w #[] 0 h (Nat.zero_le _) rfl)

/-- the byte at j, and the word of the four bytes from 4 i on -/
def nb (ys : List Int) (j : Nat) : Nat := (ys.getD j 0).toNat
def wd (ys : List Int) (i : Nat) : Nat := ((nb ys (4 * i) * 16777216 ||| nb ys (4 * i + 1) * 65536) ||| nb ys (4 * i + 2) * 256) ||| nb ys (4 * i + 3)

theorem nb_lt {ys : List Int} (h : Byt ys) (j : Nat) : nb ys j < 256 := by
  unfold nb
  by_cases hj : j < ys.length
  · have := h (ys[j]) (List.getElem_mem hj)
    simp [List.getD, hj]
    omega
  · simp [List.getD, show ys.length ≤ j by omega]
theorem wd_bits (a b c d : Nat) (ha : a < 256) (hb : b < 256) (hc : c < 256) (hd : d < 256) :
    bits .or .i64 (bits .or .i64 (bits .or .i64 ((a : Int) * 16777216) ((b : Int) * 65536)) ((c : Int) * 256)) (d : Int) = ((((a * 16777216 ||| b * 65536) ||| c * 256) ||| d : Nat) : Int) := by
  have e1 : (a : Int) * 16777216 = ((a * 16777216 : Nat) : Int) := by omega
  have e2 : (b : Int) * 65536 = ((b * 65536 : Nat) : Int) := by omega
  have e3 : (c : Int) * 256 = ((c * 256 : Nat) : Int) := by omega
  have l1 : a * 16777216 ||| b * 65536 < 2 ^ 32 := Nat.or_lt_two_pow (by omega) (by omega)
  have l2 : (a * 16777216 ||| b * 65536) ||| c * 256 < 2 ^ 32 := Nat.or_lt_two_pow l1 (by omega)
  rw [e1, e2, e3, or_nat (by omega) (by omega), or_nat (by omega) (by omega), or_nat (by omega) (by omega)]

theorem wd_lt {ys : List Int} (h : Byt ys) (i : Nat) : wd ys i < 4294967296 := by
  unfold wd
  have h0 := nb_lt h (4 * i)
  have h1 := nb_lt h (4 * i + 1)
  have h2 := nb_lt h (4 * i + 2)
  have h3 := nb_lt h (4 * i + 3)
  have l1 : nb ys (4 * i) * 16777216 ||| nb ys (4 * i + 1) * 65536 < 2 ^ 32 := Nat.or_lt_two_pow (by omega) (by omega)
  have l2 := Nat.or_lt_two_pow l1 (show nb ys (4 * i + 2) * 256 < 2 ^ 32 by omega)
  exact Nat.or_lt_two_pow l2 (by omega)

theorem byte_cell {w : World} {ys : List Int} {b off : Nat} (hby : Byt ys) (h : ∀ j, j < ys.length → w.cell? ⟨b, off + j, none⟩ = (bs ys)[j]?) (j : Nat) (hj : j < ys.length) : w.cell? ⟨b, off + j, none⟩ = some (.int .u8 (nb ys j : Nat)) := by
  rw [h j hj, bs_get]
  have hb := hby (ys[j]) (List.getElem_mem hj)
  simp [nb, List.getD, hj]
  omega

def s0w (x : Nat) : Nat := (turn x 7 ^^^ turn x 18) ^^^ x / 8
def s1w (x : Nat) : Nat := (turn x 17 ^^^ turn x 19) ^^^ x / 1024
/-- the next word behind 16 or more -/
def nxt (l : List Nat) : Nat := (l.getD (l.length - 16) 0 + s0w (l.getD (l.length - 15) 0) + l.getD (l.length - 7) 0 + s1w (l.getD (l.length - 2) 0)) % 4294967296
def ext : Nat → List Nat → List Nat
  | 0, l => l
  | n + 1, l => ext n (l ++ [nxt l])
/-- the 64 words of a block -/
def words (ys : List Int) : List Nat := ext 48 ((List.range 16).map (wd ys))

theorem s0w_lt {x : Nat} (h : x < 4294967296) : s0w x < 4294967296 := by
  unfold s0w
  have h1 : turn x 7 ^^^ turn x 18 < 2 ^ 32 := Nat.xor_lt_two_pow (turn_lt _ _) (turn_lt _ _)
  exact Nat.xor_lt_two_pow h1 (by omega)
theorem s1w_lt {x : Nat} (h : x < 4294967296) : s1w x < 4294967296 := by
  unfold s1w
  have h1 : turn x 17 ^^^ turn x 19 < 2 ^ 32 := Nat.xor_lt_two_pow (turn_lt _ _) (turn_lt _ _)
  exact Nat.xor_lt_two_pow h1 (by omega)
theorem s0w_bits {x : Nat} (h : x < 4294967296) : bits .xor .i64 (bits .xor .i64 ((turn x 7 : Nat) : Int) ((turn x 18 : Nat) : Int)) ((x : Int) / 8) = ((s0w x : Nat) : Int) := by
  have t1 := turn_lt x 7
  have t2 := turn_lt x 18
  have h1 : turn x 7 ^^^ turn x 18 < 2 ^ 32 := Nat.xor_lt_two_pow t1 t2
  have e : (x : Int) / 8 = ((x / 8 : Nat) : Int) := by omega
  rw [e, xor_nat (by omega) (by omega), xor_nat (by omega) (by omega)]
  rfl
theorem s1w_bits {x : Nat} (h : x < 4294967296) : bits .xor .i64 (bits .xor .i64 ((turn x 17 : Nat) : Int) ((turn x 19 : Nat) : Int)) ((x : Int) / 1024) = ((s1w x : Nat) : Int) := by
  have t1 := turn_lt x 17
  have t2 := turn_lt x 19
  have h1 : turn x 17 ^^^ turn x 19 < 2 ^ 32 := Nat.xor_lt_two_pow t1 t2
  have e : (x : Int) / 1024 = ((x / 1024 : Nat) : Int) := by omega
  rw [e, xor_nat (by omega) (by omega), xor_nat (by omega) (by omega)]
  rfl

theorem Own.form {w : World} {lo hi : Nat} {e : TypeId} {v : Value} {cs : List Value} (h : Own w lo hi e v cs) (hp : 0 < cs.length) :
    ∃ g cap, v = .slice (some ⟨g, 0, none⟩) cs.length cap ∧ lo ≤ g ∧ g < hi ∧ cs.length ≤ cap ∧ ∀ j, j < cs.length → w.cell? ⟨g, j, none⟩ = cs[j]? := by
  have hsl := h.sl
  obtain ⟨⟨h1, h2⟩, h3⟩ := h
  rcases h2 with ⟨rfl, h0⟩ | ⟨g, cap, cur, rfl, hb, hg, hnc, hcm, hcs, ht⟩
  · omega
  · refine ⟨g, cap, rfl, hb, h3 g rfl, hnc, ?_⟩
    obtain ⟨ao, cap', he, _, _, hr⟩ := hsl
    obtain ⟨b, off, hao, hcell⟩ := hr hp
    simp only [Value.slice.injEq] at he
    rw [← he.1] at hao
    simp only [Option.some.injEq, Addr.mk.injEq, and_true] at hao
    obtain ⟨rfl, rfl⟩ := hao
    intro j hj
    have := hcell j hj
    rw [Nat.zero_add] at this
    exact this
theorem ns_cell {w : World} {g : Nat} {L : List Nat} (h : ∀ j, j < (ns L).length → w.cell? ⟨g, j, none⟩ = (ns L)[j]?) (j : Nat) (hj : j < L.length) : w.cell? ⟨g, j, none⟩ = some (.int .i64 ((L.getD j 0 : Nat) : Int)) := by
  rw [h j (by rw [ns_len]; exact hj)]
  simp [ns, List.getD, hj]
theorem getD_lt {L : List Nat} (h : ∀ x ∈ L, x < 4294967296) (j : Nat) : L.getD j 0 < 4294967296 := by
  by_cases hj : j < L.length
  · simp [List.getD, hj]; exact h _ (List.getElem_mem hj)
  · simp [List.getD, show L.length ≤ j by omega]

theorem Sl.oneD (w : World) (u : Value) (t : TypeId) : Sl ((w.alloc (.cells #[u] t)).drew) (.slice (some ⟨w.heap.size, 0, none⟩) 1 1) [u] := Sl.one w u t
theorem one_int (x : Int) : ∀ u ∈ [Value.int .i64 x], u.oneCell' = true := by
  intro u hu
  rw [List.mem_singleton] at hu
  rw [hu]
  rfl

set_option maxRecDepth 1000000 in
set_option maxHeartbeats 2000000 in
theorem words_spec (w : World) (b off : Nat) (cap : Nat) (ys : List Int) (hy : ys.length = 64) (hcap : 64 ≤ cap) (hby : Byt ys) (hcells : ∀ j, j < ys.length → w.cell? ⟨b, off + j, none⟩ = (bs ys)[j]?) :
    Calls Try.prog 78 #[.slice (some ⟨b, off, none⟩) 64 cap] w fun e w' => ∃ v', e = .returned v' ∧ Own w' w.heap.size w'.heap.size 3 v' (ns (words ys)) ∧ Below w.heap.size w w' := by
  obtain ⟨i0, hi, hz0, hz1, hz2⟩ := info_parts info3
  have hbl : b < w.heap.size := World.block_lt_of_cell? w ⟨b, off + 0, none⟩ (byte_cell hby hcells 0 (by omega))
  have ho0 := Own.emptyN w w.heap.size (Nat.le_refl _)
  have hb0 : Below w.heap.size w (w.alloc (.cells #[] 3)) := (Below.refl _ _).alloc (Nat.le_refl _) _
  go_enter Try.func78, Try.ntmps78
  go_wp2
  go_loopw [3, 4] (fun o i wr => ∃ k : Nat, k ≤ 16 ∧ i = .int .i64 k ∧ Own wr w.heap.size wr.heap.size 3 o (ns ((List.range k).map (wd ys))) ∧ Below w.heap.size w wr) (fun _ i _ => 16 - (intOf i).toNat)
  case atStart => exact ⟨0, Nat.zero_le _, rfl, ho0, hb0⟩
  case round =>
    obtain ⟨k, hk, rfl, ho, hb⟩ := hrel
    have hsz := hb.size
    clear ho0 hb0
    by_cases hlt : k < 16
    · have cell : ∀ j, j < 64 → wr.cell? ⟨b, off + j, none⟩ = some (.int .u8 (nb ys j : Nat)) := fun j hj => by
        rw [hb.cell (p := ⟨b, off + j, none⟩) hbl]; exact byte_cell hby hcells j (by omega)
      have k0 := cell (4 * k) (by omega)
      have k1 := cell (4 * k + 1) (by omega)
      have k2 := cell (4 * k + 2) (by omega)
      have k3 := cell (4 * k + 3) (by omega)
      have n0 := nb_lt hby (4 * k)
      have n1 := nb_lt hby (4 * k + 1)
      have n2 := nb_lt hby (4 * k + 2)
      have n3 := nb_lt hby (4 * k + 3)
      obtain ⟨q0, e0⟩ : ∃ q, nb ys (4 * k) = q := ⟨_, rfl⟩
      obtain ⟨q1, e1⟩ : ∃ q, nb ys (4 * k + 1) = q := ⟨_, rfl⟩
      obtain ⟨q2, e2⟩ : ∃ q, nb ys (4 * k + 2) = q := ⟨_, rfl⟩
      obtain ⟨q3, e3⟩ : ∃ q, nb ys (4 * k + 3) = q := ⟨_, rfl⟩
      have HW : Hid (wd ys k = (((q0 * 16777216 ||| q1 * 65536) ||| q2 * 256) ||| q3)) := by show _ = _; unfold wd; rw [e0, e1, e2, e3]
      rw [e0] at k0 n0
      rw [e1] at k1 n1
      rw [e2] at k2 n2
      rw [e3] at k3 n3
      clear e0 e1 e2 e3
      have hbits := wd_bits q0 q1 q2 q3 n0 n1 n2 n3
      have hl : (ns ((List.range k).map (wd ys))).length = k := by rw [ns_len]; simp
      have c2 : (ns ((List.range k).map (wd ys))).length + 1 ≤ maxLen := by rw [hl]; unfold maxLen; omega
      have c3 : ((ns ((List.range k).map (wd ys))).length + 1) * 8 ≤ 140737488355328 := by rw [hl]; omega
      have c4 : ∀ o, w.heap.size ≤ ((wr.alloc o).drew).heap.size := fun o => by simp; omega
      have ho' : ∀ o, Own ((wr.alloc o).drew) w.heap.size ((wr.alloc o).drew).heap.size 3 _ (ns ((List.range k).map (wd ys))) := fun o => Own.alloc ho o
      have z0 : (0 : Int) ≤ (k : Int) := by omega
      have z1 : (k : Int) < 16 := by omega
      have lbr : b < wr.heap.size := by omega
      have t0 : (4 * (k : Int)).toNat = 4 * k := by omega
      have t1 : (4 * (k : Int) + 1).toNat = 4 * k + 1 := by omega
      have t2 : (4 * (k : Int) + 2).toNat = 4 * k + 2 := by omega
      have t3 : (4 * (k : Int) + 3).toNat = 4 * k + 3 := by omega
      rw [← t0] at k0
      rw [← t1] at k1
      rw [← t2] at k2
      rw [← t3] at k3
      clear t0 t1 t2 t3
      have a0 : IntKind.i64.wrap (4 * (k : Int)) = 4 * (k : Int) := wraps62 _ (by omega) (by omega)
      have a1 : IntKind.i64.wrap (4 * (k : Int) + 1) = 4 * (k : Int) + 1 := wraps62 _ (by omega) (by omega)
      have a2 : IntKind.i64.wrap (4 * (k : Int) + 2) = 4 * (k : Int) + 2 := wraps62 _ (by omega) (by omega)
      have a3 : IntKind.i64.wrap (4 * (k : Int) + 3) = 4 * (k : Int) + 3 := wraps62 _ (by omega) (by omega)
      have p0 : (0 : Int) ≤ 4 * (k : Int) := by omega
      have p1 : (0 : Int) ≤ 4 * (k : Int) + 1 := by omega
      have p2 : (0 : Int) ≤ 4 * (k : Int) + 2 := by omega
      have p3 : (0 : Int) ≤ 4 * (k : Int) + 3 := by omega
      have r0 : 4 * (k : Int) < 64 := by omega
      have r1 : 4 * (k : Int) + 1 < 64 := by omega
      have r2 : 4 * (k : Int) + 2 < 64 := by omega
      have r3 : 4 * (k : Int) + 3 < 64 := by omega
      clear cell hcells hl
      go_wp2
      go_region_held3 (fun w' => w'.cell? ⟨b, off + (4 * (k : Int)).toNat, none⟩ = some (.int .u8 (q0 : Int)) ∧ w'.cell? ⟨b, off + (4 * (k : Int) + 1).toNat, none⟩ = some (.int .u8 (q1 : Int)) ∧ w'.cell? ⟨b, off + (4 * (k : Int) + 2).toNat, none⟩ = some (.int .u8 (q2 : Int)) ∧ w'.cell? ⟨b, off + (4 * (k : Int) + 3).toNat, none⟩ = some (.int .u8 (q3 : Int)))
        (first | go_keep | (go_split_ands; refine ⟨?_, ?_, ?_, ?_⟩ <;> (rw [hb3.cell (by exact hbl)]; assumption)))
        ((refine step_app (by rfl) (.tmp 15) (.tmp 49) 54 (by rfl) 3 i0 (.int .i64 0) 8 Try.underlying54 hi hz0 hz1 hz2 rfl w.heap.size _ _ (by rfl) (ho' _) _ (by rfl) _ (Sl.oneD wr _ _) (one_int _) c2 c3 (c4 _) ?_; intro v3 w3 ho3 hb3))
      have u0 : IntKind.i64.wrap (q0 : Int) = (q0 : Int) := wraps62 _ (by omega) (by omega)
      have u1 : IntKind.i64.wrap (q1 : Int) = (q1 : Int) := wraps62 _ (by omega) (by omega)
      have u2 : IntKind.i64.wrap (q2 : Int) = (q2 : Int) := wraps62 _ (by omega) (by omega)
      have u3 : IntKind.i64.wrap (q3 : Int) = (q3 : Int) := wraps62 _ (by omega) (by omega)
      have y0 : IntKind.i64.wrap ((q0 : Int) * 16777216) = (q0 : Int) * 16777216 := wraps62 _ (by omega) (by omega)
      have y1 : IntKind.i64.wrap ((q1 : Int) * 65536) = (q1 : Int) * 65536 := wraps62 _ (by omega) (by omega)
      have y2 : IntKind.i64.wrap ((q2 : Int) * 256) = (q2 : Int) * 256 := wraps62 _ (by omega) (by omega)
      rw [u0, u1, u2, u3, y0, y1, y2, hbits, ← HW.out] at ho3
      have hb4 : Below w.heap.size w w3 := (Below.drew (hb.alloc hsz _)).trans hb3
      have ho4 : Own w3 w.heap.size w3.heap.size 3 v3 (ns ((List.range (k + 1)).map (wd ys))) := by
        rw [List.range_succ, List.map_append, ns_app]; exact ho3
      clear ho3 hb3 ho' c2 c3 c4 hbits u0 u1 u2 u3 y0 y1 y2 a0 a1 a2 a3 p0 p1 p2 p3 r0 r1 r2 r3
      go_wp2
      go_roundw
      case rel => exact ⟨k + 1, by omega, by go_num, ho4, hb4⟩
      case measure => simp [intOf]; omega
    · have hk16 : k = 16 := by omega
      subst hk16
      have hc16 : ((16 : Nat) : Int) = 16 := rfl
      simp only [hc16]
      obtain ⟨W, hW⟩ : ∃ W, W = (List.range 16).map (wd ys) := ⟨_, rfl⟩
      have hWl : W.length = 16 := by rw [hW]; simp
      have hWb : ∀ x ∈ W, x < 4294967296 := by
        rw [hW]
        intro x hx
        obtain ⟨j, _, rfl⟩ := List.mem_map.1 hx
        exact wd_lt hby j
      have HWs : Hid (W.length = 16 ∧ words ys = ext 48 W) := ⟨hWl, by rw [hW]; rfl⟩
      rw [← hW] at ho
      clear hW hWl hcells
      go_wp2
      go_loopw [3, 5] (fun o i wr => ∃ (i' : Nat) (L : List Nat), 16 ≤ i' ∧ i' ≤ 64 ∧ i = .int .i64 (i' : Int) ∧ L.length = i' ∧ (∀ x ∈ L, x < 4294967296) ∧ ext (64 - i') L = ext 48 W ∧ Own wr w.heap.size wr.heap.size 3 o (ns L) ∧ Below w.heap.size w wr) (fun _ i _ => 64 - (intOf i).toNat)
      case atStart => exact ⟨16, W, by omega, by omega, rfl, HWs.out.1, hWb, rfl, ho, hb⟩
      case round =>
        obtain ⟨i, L, hi1, hi2, rfl, hLl, hLb, hE0, ho5, hb5⟩ := hrel
        have HL : Hid (L.length = i ∧ (∀ x ∈ L, x < 4294967296) ∧ ext (64 - i) L = ext 48 W) := ⟨hLl, hLb, hE0⟩
        have hsz5 := hb5.size
        clear ho hb hsz hWb hE0
        by_cases hlt5 : i < 64
        · obtain ⟨g, cap5, rfl, hg1, hg2, hcap5, hcl⟩ := Own.form ho5 (by rw [ns_len]; omega)
          rw [ns_len, hLl] at hcap5
          have k16 := ns_cell hcl (i - 16) (by omega)
          have k15 := ns_cell hcl (i - 15) (by omega)
          have k7 := ns_cell hcl (i - 7) (by omega)
          have k2 := ns_cell hcl (i - 2) (by omega)
          rw [ns_len, hLl] at ho5
          rw [ns_len, hLl]
          obtain ⟨a16, e16⟩ : ∃ a, L.getD (i - 16) 0 = a := ⟨_, rfl⟩
          obtain ⟨a15, e15⟩ : ∃ a, L.getD (i - 15) 0 = a := ⟨_, rfl⟩
          obtain ⟨a7, e7⟩ : ∃ a, L.getD (i - 7) 0 = a := ⟨_, rfl⟩
          obtain ⟨a2, e2⟩ : ∃ a, L.getD (i - 2) 0 = a := ⟨_, rfl⟩
          have l16 : a16 < 4294967296 := by rw [← e16]; exact getD_lt hLb _
          have l15 : a15 < 4294967296 := by rw [← e15]; exact getD_lt hLb _
          have l7 : a7 < 4294967296 := by rw [← e7]; exact getD_lt hLb _
          have l2 : a2 < 4294967296 := by rw [← e2]; exact getD_lt hLb _
          have HN : Hid (nxt L = (a16 + s0w a15 + a7 + s1w a2) % 4294967296) := by show _ = _; unfold nxt; rw [hLl, e16, e15, e7, e2]
          rw [e16] at k16
          rw [e15] at k15
          rw [e7] at k7
          rw [e2] at k2
          have x1 := s0w_bits l15
          have x2 := s1w_bits l2
          have m1 := s0w_lt l15
          have m2 := s1w_lt l2
          clear hLl hLb e16 e15 e7 e2 hcl
          have q7 := turn_at wr a15 7 7 rfl l15 (by omega) (by omega)
          have q18 := turn_at wr a15 18 18 rfl l15 (by omega) (by omega)
          have q17 := turn_at wr a2 17 17 rfl l2 (by omega) (by omega)
          have q19 := turn_at wr a2 19 19 rfl l2 (by omega) (by omega)
          go_wp2_with fail
          refine q7.mono ?_
          rintro e w' ⟨rfl, rfl⟩
          go_wp2_with fail
          refine q18.mono ?_
          rintro e w' ⟨rfl, rfl⟩
          go_wp2_with fail
          refine q17.mono ?_
          rintro e w' ⟨rfl, rfl⟩
          go_wp2_with fail
          refine q19.mono ?_
          rintro e w' ⟨rfl, rfl⟩
          clear q7 q18 q17 q19
          have hl : (ns L).length = i := by rw [ns_len]; exact HL.out.1
          have c2 : (ns L).length + 1 ≤ maxLen := by rw [hl]; unfold maxLen; omega
          have c3 : ((ns L).length + 1) * 8 ≤ 140737488355328 := by rw [hl]; omega
          have c4 : ∀ o, w.heap.size ≤ (wr.drew.alloc o).heap.size := fun o => by simp; omega
          have ho' : ∀ o, Own (wr.drew.alloc o) w.heap.size (wr.drew.alloc o).heap.size 3 _ (ns L) := fun o => Own.alloc (w := wr.drew) ho5 o
          have hsum := mask_nat (a := a16 + s0w a15 + a7 + s1w a2) (by omega)
          have esum : ((a16 + s0w a15 + a7 + s1w a2 : Nat) : Int) = (a16 : Int) + (s0w a15 : Int) + (a7 : Int) + (s1w a2 : Int) := by omega
          rw [esum] at hsum
          obtain ⟨nx, hnx⟩ : ∃ z, z = (a16 + s0w a15 + a7 + s1w a2) % 4294967296 := ⟨_, rfl⟩
          rw [← hnx] at hsum
          have HX : Hid (nxt L = nx) := by show _ = _; rw [HN.out, hnx]
          have hnxb : nx < 4294967296 := by rw [hnx]; exact Nat.mod_lt _ (by decide)
          have d16 : IntKind.i64.wrap ((i : Int) - 16) = (i : Int) - 16 := wraps62 _ (by omega) (by omega)
          have d7 : IntKind.i64.wrap ((i : Int) - 7) = (i : Int) - 7 := wraps62 _ (by omega) (by omega)
          have f16 : (16 : Int) ≤ (i : Int) := by omega
          have f7 : (7 : Int) ≤ (i : Int) := by omega
          have j16 : (i : Int) - 16 < (i : Int) := by omega
          have j7 : (i : Int) - 7 < (i : Int) := by omega
          have t16 : ((i : Int) - 16).toNat = i - 16 := by omega
          have t7 : ((i : Int) - 7).toNat = i - 7 := by omega
          clear hl esum hnx HN
          go_wp2
          clear x1 x2 k15 k2
          go_region_law (first | (refine step_app rfl (.tmp 81) (.tmp 98) 54 rfl 3 i0 (.int .i64 0) 8 Try.underlying54 hi hz0 hz1 hz2 rfl w.heap.size _ _ rfl (ho' _) _ rfl _ (Sl.one wr.drew _ _) (one_int _) c2 c3 (c4 _) ?_; intro v6 w6 ho6 hb6))
          all_goals
            have y1 : IntKind.i64.wrap ((a16 : Int) + (s0w a15 : Int)) = (a16 : Int) + (s0w a15 : Int) := wraps62 _ (by omega) (by omega)
            have y2 : IntKind.i64.wrap ((a16 : Int) + (s0w a15 : Int) + (a7 : Int)) = (a16 : Int) + (s0w a15 : Int) + (a7 : Int) := wraps62 _ (by omega) (by omega)
            have y3 : IntKind.i64.wrap ((a16 : Int) + (s0w a15 : Int) + (a7 : Int) + (s1w a2 : Int)) = (a16 : Int) + (s0w a15 : Int) + (a7 : Int) + (s1w a2 : Int) := wraps62 _ (by omega) (by omega)
            rw [y1, y2, y3, hsum, ← HX.out] at ho6
            have hb7 : Below w.heap.size w w6 := (Below.alloc (w := wr.drew) (Below.drew hb5) hsz5 _).trans hb6
            have ho7 : Own w6 w.heap.size w6.heap.size 3 v6 (ns (L ++ [nxt L])) := by rw [ns_app]; exact ho6
            have HM : Hid ((L ++ [nxt L]).length = i + 1 ∧ (∀ x ∈ L ++ [nxt L], x < 4294967296) ∧ ext (64 - (i + 1)) (L ++ [nxt L]) = ext 48 W) := by
              refine ⟨by rw [List.length_append, HL.out.1]; rfl, fun x hx => ?_, ?_⟩
              · rcases List.mem_append.1 hx with hx | hx
                · exact HL.out.2.1 x hx
                · rw [List.mem_singleton] at hx; rw [hx, HX.out]; exact hnxb
              · have h1 := HL.out.2.2
                rw [show 64 - i = (64 - (i + 1)) + 1 by omega] at h1
                exact h1
            clear ho6 hb6 ho' c2 c3 c4 hsum d16 d7 j16 j7 t16 t7 y1 y2 y3 k16 k7
            go_wp2
            go_roundw
            case rel => first | exact ⟨i + 1, L ++ [nxt L], by omega, by omega, by go_num, HM.out.1, HM.out.2.1, HM.out.2.2, ho7, hb7⟩ | ((repeat apply Exists.intro); exact ⟨⟨i + 1, L ++ [nxt L], by omega, by omega, by go_num, HM.out.1, HM.out.2.1, HM.out.2.2, ho7, hb7⟩, rfl⟩)
            case measure => simp [intOf]; omega
        · go_wp2
          go_ret
          have h1 := HL.out.2.2
          rw [show 64 - i = 0 by omega] at h1
          rw [HWs.out.2, ← h1]
          exact ⟨_, rfl, ho5, hb5⟩

end Go.Proofs.Yteemblfjghnooaa.Sha
