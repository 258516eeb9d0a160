/- Plain facts of digests: 32 bytes, which come back of their hex digits; what is padded begins with what there was. -/
import Derived.Test.YteemblfjghnooaaSha4
namespace Go.Proofs.Yteemblfjghnooaa.Sha
open Go.Proofs.Yteemblfjghnooaa.Mem Go.Proofs.Yteemblfjghnooaa.Laws

theorem blk_len8 {H : List Nat} (h : H.length = 8) (ys : List Int) (K : List Nat) : (blk H ys K).length = 8 := by
  obtain ⟨a, b, c, d, e, f, q, r, rfl⟩ := len8 h
  exact blk_len a b c d e f q r ys K
theorem dblocks_len (n : Nat) : ∀ (H : List Nat) (ys : List Int), H.length = 8 → (dblocks n H ys).length = 8 := by
  induction n with
  | zero => intro H ys h; exact h
  | succ n ih => intro H ys h; rw [dblocks]; exact ih _ _ (blk_len8 h _ _)
theorem digest_len (xs : List Int) : (digest xs).length = 32 := by
  unfold digest
  rw [flat4, dblocks_len _ _ _ rfl]
theorem digest_byt (xs : List Int) : Byt (digest xs) := flat_byt _

theorem txt_size (l : List Int) : (Plain.txt l).size = l.length := by
  show (Plain.txt l).data.size = _
  simp [Plain.txt, Plain.u8s]
theorem sb_txt {l : List Int} (h : Byt l) : sb (Plain.txt l) = l := by
  unfold sb Plain.txt Plain.u8s
  simp only [List.map_map]
  have e : ∀ x ∈ l, ((fun b : UInt8 => (b.toNat : Int)) ∘ fun x : Int => UInt8.ofNat x.toNat) x = x := fun x hx => Plain.u8_back (h x hx)
  rw [List.map_congr_left e]
  simp

theorem undig_hexd {d : Int} (h0 : 0 ≤ d) (h1 : d < 16) : undig (hexd d) = d := by
  unfold undig hexd
  split
  · rw [if_pos (by omega)]; omega
  · rw [if_neg (by omega), if_pos (by omega)]; omega
theorem unhex_hexs (l : List Int) (h : Byt l) : unhex (hexs l) = some l := by
  induction l with
  | nil => rfl
  | cons c r ih =>
    have hc := h c (List.mem_cons_self ..)
    have e : hexs (c :: r) = hexd (c / 16) :: hexd (c % 16) :: hexs r := by
      rw [show c :: r = [c] ++ r from rfl, hexs_app, hexs_one]; rfl
    have e1 := undig_hexd (d := c / 16) (by omega) (by omega)
    have e2 := undig_hexd (d := c % 16) (by omega) (by omega)
    rw [e, unhex_good (by rw [e1, e2]; omega), ih (fun x hx => h x (List.mem_cons_of_mem _ hx)), e1, e2]
    simp only [Option.map_some, Option.some.injEq, List.cons.injEq, and_true]
    omega
theorem unHex_back {l : List Int} (h : Byt l) : unHex (Plain.txt (hexs l)) = (Plain.txt l, true) :=
  unHex_some (by rw [sb_txt (hexs_byt l h)]; exact unhex_hexs l h)

theorem padded_ge (xs : List Int) : xs.length + 9 ≤ (padded xs).length := by
  simp only [padded, be8, List.length_append, List.length_cons, List.length_nil, List.length_replicate]
  omega
theorem padded_at (xs : List Int) : (padded xs)[xs.length]? = some 128 := by
  unfold padded
  rw [List.append_assoc, List.append_assoc, List.getElem?_append_right (Nat.le_refl _), Nat.sub_self]
  rfl
theorem padded_pre (xs : List Int) (j : Nat) (h : j < xs.length) : (padded xs)[j]? = xs[j]? := by
  unfold padded
  rw [List.append_assoc, List.append_assoc, List.getElem?_append_left h]

end Go.Proofs.Yteemblfjghnooaa.Sha
