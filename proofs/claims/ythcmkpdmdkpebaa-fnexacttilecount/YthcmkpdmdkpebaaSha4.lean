/- Contract of the specification's digest: of any bytes, the 32 bytes of the eight words behind all blocks. -/
import Derived.Test.YthcmkpdmdkpebaaSha3
namespace Go.Proofs.Ythcmkpdmdkpebaa.Sha
open Go.RowKit Go.Proofs.Ythcmkpdmdkpebaa.Mem Go.Proofs.Ythcmkpdmdkpebaa.Laws Go.Proofs.Ythcmkpdmdkpebaa.Bytes
set_option linter.unusedVariables false
set_option linter.unusedSimpArgs false

/-- the constants of the cube roots, and the words of the square roots -/
def KC : List Nat := [1116352408, 1899447441, 3049323471, 3921009573, 961987163, 1508970993, 2453635748, 2870763221, 3624381080, 310598401, 607225278, 1426881987, 1925078388, 2162078206, 2614888103, 3248222580, 3835390401, 4022224774, 264347078, 604807628, 770255983, 1249150122, 1555081692, 1996064986, 2554220882, 2821834349, 2952996808, 3210313671, 3336571891, 3584528711, 113926993, 338241895, 666307205, 773529912, 1294757372, 1396182291, 1695183700, 1986661051, 2177026350, 2456956037, 2730485921, 2820302411, 3259730800, 3345764771, 3516065817, 3600352804, 4094571909, 275423344, 430227734, 506948616, 659060556, 883997877, 958139571, 1322822218, 1537002063, 1747873779, 1955562222, 2024104815, 2227730452, 2361852424, 2428436474, 2756734187, 3204031479, 3329325298]
def H0 : List Nat := [1779033703, 3144134277, 1013904242, 2773480762, 1359893119, 2600822924, 528734635, 1541459225]
theorem KC_len : KC.length = 64 := rfl
theorem KC_lt : ∀ x ∈ KC, x < 4294967296 := by decide

theorem H0_lt : ∀ x ∈ H0, x < 4294967296 := by decide

def dblocks : Nat → List Nat → List Int → List Nat
  | 0, H, _ => H
  | n + 1, H, ys => dblocks n (blk H (ys.take 64) KC) (ys.drop 64)
def be4 (x : Nat) : List Int := [((x / 16777216 % 256 : Nat) : Int), ((x / 65536 % 256 : Nat) : Int), ((x / 256 % 256 : Nat) : Int), ((x % 256 : Nat) : Int)]
/-- the digest's 32 bytes -/
def digest (xs : List Int) : List Int := (dblocks ((padded xs).length / 64) H0 (padded xs)).flatMap be4

theorem padded_len (xs : List Int) : (padded xs).length % 64 = 0 := by
  unfold padded zc
  simp [be8]
  omega
theorem padded_le (xs : List Int) : (padded xs).length ≤ xs.length + 73 := by
  unfold padded zc
  simp [be8]
  omega
theorem be8_byt (n : Nat) : Byt (be8 n) := by
  intro x hx
  simp only [be8, List.mem_cons, List.not_mem_nil, or_false] at hx
  omega
theorem padded_byt {xs : List Int} (h : Byt xs) : Byt (padded xs) := by
  unfold padded
  refine ((h.app ?_).app ?_).app (be8_byt _)
  · intro x hx; rw [List.mem_singleton] at hx; omega
  · intro x hx; have := List.eq_of_mem_replicate hx; omega

theorem lit_own (w : World) (lo : Nat) (cs : Array Value) (n : Nat) (L : List Nat) (hn : cs.toList = ns L) (hl : L.length = n) (h : lo ≤ w.heap.size) (hm : n ≤ 1000) : Own (w.alloc (.cells cs 3)) lo (w.alloc (.cells cs 3)).heap.size 3 (.slice (some ⟨w.heap.size, 0, none⟩) n n) (ns L) := by
  have hs : cs.size = n * 1 := by have := congrArg List.length hn; rw [ns_len, hl, Array.length_toList] at this; omega
  have := Own.of (World.ownsRow_lit (e := 3) (base := lo) (size := 1) w cs n h (by unfold maxLen; omega) hs)
  rw [hn] at this
  exact this

theorem flat4 (l : List Nat) : (l.flatMap be4).length = 4 * l.length := by
  induction l with
  | nil => rfl
  | cons x r ih => rw [List.flatMap_cons, List.length_append, ih, List.length_cons]; simp [be4]; omega
theorem be4_byt (x : Nat) : Byt (be4 x) := by
  intro y hy
  simp only [be4, List.mem_cons, List.not_mem_nil, or_false] at hy
  omega
theorem flat_byt (l : List Nat) : Byt (l.flatMap be4) := by
  intro y hy
  obtain ⟨x, _, hx⟩ := List.mem_flatMap.1 hy
  exact be4_byt x y hx
theorem Sl.four (w : World) (a b c d : Int) (t : TypeId) : Sl ((w.alloc (.cells #[.int .u8 a, .int .u8 b, .int .u8 c, .int .u8 d] t)).drew) (.slice (some ⟨w.heap.size, 0, none⟩) 4 4) (bs [a, b, c, d]) := by
  refine ⟨some ⟨w.heap.size, 0, none⟩, 4, rfl, by simp [bs], fun h => (by cases h), fun _ => ⟨w.heap.size, 0, rfl, fun j hj => ?_⟩⟩
  show (w.alloc _).cell? _ = _
  rw [cell_of_row _ w.heap.size (0 + j) #[.int .u8 a, .int .u8 b, .int .u8 c, .int .u8 d] t (0, 0) (heap_alloc_new w _)]
  have h2 : j = 0 ∨ j = 1 ∨ j = 2 ∨ j = 3 := by simp [bs] at hj; omega
  rcases h2 with rfl | rfl | rfl | rfl <;> simp [bs]

theorem len8 {L : List Nat} (h : L.length = 8) : ∃ a b c d e f q r, L = [a, b, c, d, e, f, q, r] := by
  match L, h with
  | [a, b, c, d, e, f, q, r], _ => exact ⟨a, b, c, d, e, f, q, r, rfl⟩
theorem rnds_len (K : List Nat) : ∀ (X v : List Nat), v.length = 8 → (rnds K X v).length = 8 := by
  induction K with
  | nil => intro X v h; rw [rnds]; exact h; intro k ks x xs a b c d e f g h h1; cases h1
  | cons k ks ih =>
    intro X v h
    cases X with
    | nil => rw [rnds]; exact h; intro k ks x xs a b c d e f g h h1 h2; cases h2
    | cons x xs =>
      obtain ⟨a, b, c, d, e, f, q, r, rfl⟩ := len8 h
      rw [rnds]
      exact ih xs _ rfl
theorem blk_len (a b c d e f q h : Nat) (ys : List Int) (K : List Nat) : (blk [a, b, c, d, e, f, q, h] ys K).length = 8 := by
  unfold blk
  rw [List.length_zipWith, rnds_len K _ _ rfl]
  rfl
theorem blk_lt (H : List Nat) (ys : List Int) (K : List Nat) : ∀ x ∈ blk H ys K, x < 4294967296 := by
  intro x hx
  unfold blk at hx
  obtain ⟨j, hj, rfl⟩ := List.getElem_of_mem hx
  rw [List.getElem_zipWith]
  exact Nat.mod_lt _ (by decide)

end Go.Proofs.Ythcmkpdmdkpebaa.Sha
