/- Texts in one: Strs, Tr1, Tr2, Tr3, Tr4, Tr5, Tr6, Tr8, He1. -/
import Derived.Test.YtchonoonclllbaaGreatDoorPh8
import Derived.WalkKit
import Derived.WalkSpells
import Derived.WalkLawsBesides
import Derived.Deep.QuietTactic
import Derived.BigQuiet
import Derived.Deep.RegionWith
import Derived.Deep.RegionHeld3
set_option maxHeartbeats 16000000
set_option linter.unusedVariables false
set_option linter.unusedSimpArgs false
namespace Go.Proofs.YtchonoonclllbaaGreatDoor.Strs
open Go.RowKit Mem Bytes
theorem info9 : (Tryz.prog.info? 9).map (fun i => (i.zero, i.size, i.bytes)) = some (some (.string ⟨#[]⟩), 1, 16) := by kernel_rfl
end Go.Proofs.YtchonoonclllbaaGreatDoor.Strs
namespace Go.Proofs.YtchonoonclllbaaGreatDoor.Tr
open Go.RowKit Mem Laws Sha
theorem lenRec {P : List ByteArray → Prop} (h : ∀ l, (∀ r, r.length < l.length → P r) → P l) (l : List ByteArray) : P l := by
  have key : ∀ (N : Nat) (l : List ByteArray), l.length < N → P l := by
    intro N
    induction N with
    | zero => intro l hl; omega
    | succ N ih => intro l hl; exact h l (fun r hr => ih r (by omega))
  exact key (l.length + 1) l (Nat.lt_succ_self _)
theorem natRec {P : Nat → Prop} (h : ∀ n, (∀ m, m < n → P m) → P n) (n : Nat) : P n := by
  have key : ∀ (N : Nat) (n : Nat), n < N → P n := by
    intro N
    induction N with
    | zero => intro n hn; omega
    | succ N ih => intro n hn; exact h n (fun m hm => ih m (by omega))
  exact key (n + 1) n (Nat.lt_succ_self _)
def halfF : Nat → Nat → Nat → Nat
  | 0, k, _ => k
  | f + 1, k, n => if 2 * k < n then halfF f (2 * k) n else k
def half (n : Nat) : Nat := halfF n 1 n
def Pow (p : Nat) : Prop := ∃ e, p = 2 ^ e
theorem halfF_ok : ∀ (f k n : Nat), 1 ≤ k → k < n → n ≤ k + f → Pow k → Pow (halfF f k n) ∧ halfF f k n < n ∧ n ≤ 2 * halfF f k n := by
  intro f
  induction f with
  | zero => intro k n h1 h2 h3; omega
  | succ f ih =>
    intro k n h1 h2 h3 hp
    unfold halfF
    split
    · exact ih (2 * k) n (by omega) (by assumption) (by omega) (by obtain ⟨e, rfl⟩ := hp; exact ⟨e + 1, by rw [Nat.pow_succ]; omega⟩)
    · exact ⟨hp, h2, by omega⟩
theorem half_ok {n : Nat} (h : 2 ≤ n) : Pow (half n) ∧ half n < n ∧ n ≤ 2 * half n := halfF_ok n 1 n (by omega) (by omega) (by omega) ⟨0, rfl⟩
theorem half_pos {n : Nat} (h : 2 ≤ n) : 1 ≤ half n := by
  have := (half_ok h).2.2
  omega
theorem pow_one {p q n : Nat} (hp : Pow p) (hq : Pow q) (h1 : p < n) (h2 : n ≤ 2 * p) (h3 : q < n) (h4 : n ≤ 2 * q) : p = q := by
  obtain ⟨e, rfl⟩ := hp
  obtain ⟨d, rfl⟩ := hq
  have a1 : 2 ^ e < 2 ^ (d + 1) := by rw [Nat.pow_succ]; omega
  have a2 : 2 ^ d < 2 ^ (e + 1) := by rw [Nat.pow_succ]; omega
  have b1 := (Nat.pow_lt_pow_iff_right (by omega : 1 < 2)).1 a1
  have b2 := (Nat.pow_lt_pow_iff_right (by omega : 1 < 2)).1 a2
  have : e = d := by omega
  rw [this]
def leafH (s : ByteArray) : ByteArray := Plain.txt (digest (0 :: sb s))
def nodeH (a b : ByteArray) : ByteArray := Plain.txt (digest (1 :: (sb a ++ sb b)))
theorem leafH_size (s : ByteArray) : (leafH s).size = 32 := by unfold leafH; rw [txt_size, digest_len]
theorem nodeH_size (a b : ByteArray) : (nodeH a b).size = 32 := by unfold nodeH; rw [txt_size, digest_len]
def root1 : List ByteArray → ByteArray
  | [] => Plain.txt (digest [])
  | s :: _ => leafH s
def rootF : Nat → List ByteArray → ByteArray
  | 0, _ => ⟨#[]⟩
  | f + 1, l =>
    if 2 ≤ l.length then nodeH (rootF f (l.take (half l.length))) (rootF f (l.drop (half l.length)))
    else root1 l
theorem take_lt {l : List ByteArray} (h : 2 ≤ l.length) : (l.take (half l.length)).length < l.length := by
  rw [List.length_take]; have := (half_ok h).2.1; omega
theorem drop_lt {l : List ByteArray} (h : 2 ≤ l.length) : (l.drop (half l.length)).length < l.length := by
  rw [List.length_drop]; have := half_pos h; omega
theorem rootF_any : ∀ (f g : Nat) (l : List ByteArray), l.length < f → l.length < g → rootF f l = rootF g l := by
  intro f
  induction f with
  | zero => intro g l hf; omega
  | succ f ih =>
    intro g l hf hg
    cases g with
    | zero => omega
    | succ g =>
      by_cases h : 2 ≤ l.length
      · have h1 := take_lt h
        have h2 := drop_lt h
        rw [rootF, rootF, if_pos h, if_pos h, ih g (l.take (half l.length)) (by omega) (by omega), ih g (l.drop (half l.length)) (by omega) (by omega)]
      · rw [rootF, rootF, if_neg h, if_neg h]
def root (l : List ByteArray) : ByteArray := rootF (l.length + 1) l
theorem root_if (l : List ByteArray) : root l = if 2 ≤ l.length then nodeH (root (l.take (half l.length))) (root (l.drop (half l.length))) else root1 l := by
  unfold root
  by_cases h : 2 ≤ l.length
  · have h1 := take_lt h
    have h2 := drop_lt h
    rw [rootF, if_pos h, if_pos h, rootF_any l.length ((l.take (half l.length)).length + 1) (l.take (half l.length)) (by omega) (by omega), rootF_any l.length ((l.drop (half l.length)).length + 1) (l.drop (half l.length)) (by omega) (by omega)]
  · rw [rootF, if_neg h, if_neg h]
theorem root_nil : root [] = Plain.txt (digest []) := by rw [root_if]; simp [root1]
theorem root_one (s : ByteArray) : root [s] = leafH s := by rw [root_if]; simp [root1]
theorem root_more {l : List ByteArray} (h : 2 ≤ l.length) : root l = nodeH (root (l.take (half l.length))) (root (l.drop (half l.length))) := by
  rw [root_if, if_pos h]
theorem root_size (l : List ByteArray) : (root l).size = 32 := by
  by_cases h : 2 ≤ l.length
  · rw [root_more h]; exact nodeH_size _ _
  · match l, h with
    | [], _ => rw [root_nil, txt_size, digest_len]
    | [s], _ => rw [root_one]; exact leafH_size s
    | _ :: _ :: _, h => simp at h
def pathF : Nat → List ByteArray → Nat → List ByteArray
  | 0, _, _ => []
  | f + 1, l, i =>
    if 2 ≤ l.length then
      (if i < half l.length then pathF f (l.take (half l.length)) i ++ [root (l.drop (half l.length))]
       else pathF f (l.drop (half l.length)) (i - half l.length) ++ [root (l.take (half l.length))])
    else []
def path (l : List ByteArray) (i : Nat) : List ByteArray := pathF (l.length + 1) l i
def upF : Nat → ByteArray → Nat → Nat → List ByteArray → ByteArray × Bool
  | 0, _, _, _, _ => (⟨#[]⟩, false)
  | f + 1, leaf, i, n, p =>
    if 2 ≤ n then
      (match p.getLast? with
       | none => (⟨#[]⟩, false)
       | some last =>
         if i < half n then (nodeH (upF f leaf i (half n) p.dropLast).1 last, (upF f leaf i (half n) p.dropLast).2)
         else (nodeH last (upF f leaf (i - half n) (n - half n) p.dropLast).1, (upF f leaf (i - half n) (n - half n) p.dropLast).2))
    else (leaf, p.isEmpty)
def up (leaf : ByteArray) (i n : Nat) (p : List ByteArray) : ByteArray × Bool := upF (n + 1) leaf i n p
def growF : Nat → List ByteArray → Nat → Bool → List ByteArray
  | 0, _, _, _ => []
  | f + 1, l, n, whole =>
    if n = l.length then (if whole = true then [] else [root l])
    else if 2 ≤ l.length then
      (if n ≤ half l.length then growF f (l.take (half l.length)) n whole ++ [root (l.drop (half l.length))]
       else growF f (l.drop (half l.length)) (n - half l.length) false ++ [root (l.take (half l.length))])
    else []
def grow (l : List ByteArray) (n : Nat) (whole : Bool) : List ByteArray := growF (l.length + 1) l n whole
def grownF : Nat → Nat → Nat → Bool → ByteArray → List ByteArray → ByteArray × ByteArray × Bool
  | 0, _, _, _, _, _ => (⟨#[]⟩, ⟨#[]⟩, false)
  | f + 1, n, m, whole, a, p =>
    if n = m then
      (if whole = true then (a, a, p.isEmpty)
       else if p.length = 1 then (p.headD ⟨#[]⟩, p.headD ⟨#[]⟩, true) else (⟨#[]⟩, ⟨#[]⟩, false))
    else if 2 ≤ m then
      (match p.getLast? with
       | none => (⟨#[]⟩, ⟨#[]⟩, false)
       | some last =>
         if n ≤ half m then ((grownF f n (half m) whole a p.dropLast).1, nodeH (grownF f n (half m) whole a p.dropLast).2.1 last, (grownF f n (half m) whole a p.dropLast).2.2)
         else (nodeH last (grownF f (n - half m) (m - half m) false a p.dropLast).1, nodeH last (grownF f (n - half m) (m - half m) false a p.dropLast).2.1, (grownF f (n - half m) (m - half m) false a p.dropLast).2.2))
    else (⟨#[]⟩, ⟨#[]⟩, false)
def grown (n m : Nat) (whole : Bool) (a : ByteArray) (p : List ByteArray) : ByteArray × ByteArray × Bool := grownF (m + 1) n m whole a p
end Go.Proofs.YtchonoonclllbaaGreatDoor.Tr
namespace Go.Proofs.YtchonoonclllbaaGreatDoor.Tr
open Go.RowKit Mem Laws Bytes Sha
theorem oneB (w : World) (lo : Nat) (x : Int) (h : lo ≤ w.heap.size) : Own (w.alloc (.cells #[.int .u8 x] 5)) lo (w.alloc (.cells #[.int .u8 x] 5)).heap.size 5 (.slice (some ⟨w.heap.size, 0, none⟩) 1 1) (bs [x]) := by
 exact Own.of (World.ownsRow_lit (e := 5) (base := lo) (size := 1) w #[.int .u8 x] 1 h (by unfold maxLen; omega) rfl)
set_option maxRecDepth 1000000 in
theorem half_spec (w : World) (n : Nat) (hn : n ≤ 1000000000000) : Calls Tryz.prog 131 #[.int .i64 (n : Int)] w fun e w' => e = .returned (.int .i64 (half n : Int)) ∧ w' = w := by
 go_enter Tryz.func131, Tryz.ntmps131
 go_wp2
 go_loopw [3] (fun i wr => ∃ k f : Nat, i = .int .i64 (k : Int) ∧ 1 ≤ k ∧ k ≤ n + 1 ∧ n ≤ k + f ∧ Hid (halfF f k n = half n) ∧ wr = w) (fun i _ => n + 1 - (intOf i).toNat)
 case atStart => exact ⟨1, n, rfl, Nat.le_refl _, by omega, by omega, rfl, rfl⟩
 case round =>
  obtain ⟨k, f, rfl, hk1, hk2, hf, HH, rfl⟩ := hrel
  by_cases hlt : 2 * k < n
  ·obtain ⟨g, rfl⟩ : ∃ g, f = g + 1 := ⟨f - 1, by omega⟩
   have HN : Hid (halfF g (2 * k) n = half n) := by
    show _ = _
    rw [← HH.out, halfF, if_pos hlt]
   have hlt' : (2 : Int) * (k : Int) < (n : Int) := by omega
   clear HH
   go_wp2
   go_roundw
   case rel => exact ⟨2 * k, g, by go_num, by omega, by omega, by omega, HN, by trivial⟩
   case measure => simp [intOf]; omega
  ·have HN : Hid (half n = k) := by
    show _ = _
    rw [← HH.out]
    cases f with
    | zero => rfl
    | succ f => rw [halfF, if_neg hlt]
   have hlt' : ¬ (2 : Int) * (k : Int) < (n : Int) := by omega
   clear HH
   go_wp2
   go_ret
   exact ⟨by rw [HN.out]; rfl, rfl⟩
set_option maxRecDepth 1000000 in
theorem leaf_spec (w : World) (s : ByteArray) (hs : s.size ≤ 100000000000) : Calls Tryz.prog 130 #[.string s] w fun e w' => e = .returned (.string (leafH s)) ∧ Below w.heap.size w w' := by
 obtain ⟨i0, hi, hz0, hz1, hz2⟩ := info_parts info5
 have ho := oneB w w.heap.size 0 (Nat.le_refl _)
 have hB : Below w.heap.size w (w.alloc (.cells #[.int .u8 0] 5)) := (Below.refl _ _).alloc (Nat.le_refl _) _
 have hsz : w.heap.size ≤ (w.alloc (.cells #[.int .u8 0] 5)).heap.size := by simp
 have c1 : ([0] : List Int).length + s.size ≤ 140737488355328 := by simp; omega
 go_enter Tryz.func130, Tryz.ntmps130
 go_wp2_with (at_builtin; go_must (refine wpl_str _ rfl (.tmp 3) (.tmp 4) 22 9 rfl 5 i0 Tryz.underlying22 Tryz.underlying9 hi hz0 hz1 hz2 w.heap.size _ _ rfl ho s rfl c1 hsz ?_))
 intro v2 w2 ho2 hb2
 have q := digest_spec w2 v2 ([0] ++ sb s) ho2.sl (Byt.app (by intro x hx; simp at hx; omega) (sb_byt s)) (by rw [List.length_append, sb_len]; simp; omega)
 have HB2 : Hid (Below w.heap.size w w2) := hB.trans hb2
 clear ho ho2 hb2 hB
 go_wp2_with fail
 refine q.mono ?_
 rintro e w3 ⟨rfl, b3⟩
 have hB3 : Below w.heap.size w w3 := HB2.out.trans (b3.mono HB2.out.size)
 go_wp2
 go_ret
 exact ⟨rfl, hB3⟩
set_option maxRecDepth 1000000 in
theorem node_spec (w : World) (a b : ByteArray) (ha : a.size ≤ 100000000000) (hb : b.size ≤ 100000000000) : Calls Tryz.prog 132 #[.string a, .string b] w fun e w' => e = .returned (.string (nodeH a b)) ∧ Below w.heap.size w w' := by
 obtain ⟨i0, hi, hz0, hz1, hz2⟩ := info_parts info5
 have ho := oneB w w.heap.size 1 (Nat.le_refl _)
 have hB : Below w.heap.size w (w.alloc (.cells #[.int .u8 1] 5)) := (Below.refl _ _).alloc (Nat.le_refl _) _
 have hsz : w.heap.size ≤ (w.alloc (.cells #[.int .u8 1] 5)).heap.size := by simp
 have c1 : ([1] : List Int).length + a.size ≤ 140737488355328 := by simp; omega
 have c2 : ([1] ++ sb a : List Int).length + b.size ≤ 140737488355328 := by rw [List.length_append, sb_len]; simp; omega
 go_enter Tryz.func132, Tryz.ntmps132
 go_wp2_with (at_builtin; go_must (refine wpl_str _ rfl (.tmp 5) (.tmp 6) 22 9 rfl 5 i0 Tryz.underlying22 Tryz.underlying9 hi hz0 hz1 hz2 w.heap.size _ _ rfl ho a rfl c1 hsz ?_))
 intro v2 w2 ho2 hb2
 have hsz2 := Nat.le_trans hsz hb2.size
 go_wp2_with (at_builtin; go_must (refine wpl_str _ rfl (.tmp 7) (.tmp 8) 22 9 rfl 5 i0 Tryz.underlying22 Tryz.underlying9 hi hz0 hz1 hz2 w.heap.size _ _ rfl ho2 b rfl c2 hsz2 ?_))
 intro v3 w3 ho3 hb3
 have q := digest_spec w3 v3 ([1] ++ sb a ++ sb b) ho3.sl (Byt.app (Byt.app (by intro x hx; simp at hx; omega) (sb_byt a)) (sb_byt b)) (by rw [List.length_append, List.length_append, sb_len, sb_len]; simp; omega)
 have HB3 : Hid (Below w.heap.size w w3) := (hB.trans hb2).trans hb3
 clear ho2 ho3 hb2 hb3 hB
 go_wp2_with fail
 refine q.mono ?_
 rintro e w4 ⟨rfl, b4⟩
 have hB4 : Below w.heap.size w w4 := HB3.out.trans (b4.mono HB3.out.size)
 go_wp2
 go_ret
 exact ⟨rfl, hB4⟩
theorem slBack {w : World} {b off n cap : Nat} {cs : List Value} (h : Sl w (.slice (some ⟨b, off, none⟩) n cap) cs) (k : Nat) (hk : k < cs.length) : Sl w (.slice (some ⟨b, off + k, none⟩) (n - k) (cap - k)) (cs.drop k) := by
 obtain ⟨ao', cap', he, hc, hn, hr⟩ := h
 simp only [Value.slice.injEq] at he
 obtain ⟨rfl, rfl, rfl⟩ := he
 have hl : (cs.drop k).length = cs.length - k := by simp
 obtain ⟨b', off', he', hcell⟩ := hr (by omega)
 simp only [Option.some.injEq, Addr.mk.injEq] at he'
 obtain ⟨rfl, rfl, _⟩ := he'
 refine ⟨some ⟨b, off + k, none⟩, cap - k, by rw [hl], by rw [hl]; omega, fun h => (by cases h), fun hp => ⟨b, off + k, rfl, fun j hj => ?_⟩⟩
 rw [Nat.add_assoc, hcell (k + j) (by rw [hl] at hj; omega), List.getElem?_drop]
theorem slForm {w : World} {v : Value} {cs : List Value} (h : Sl w v cs) (hp : 0 < cs.length) : ∃ b off cap, v = .slice (some ⟨b, off, none⟩) cs.length cap ∧ cs.length ≤ cap := by
 obtain ⟨ao, cap, rfl, hc, _, hr⟩ := h
 obtain ⟨b, off, rfl, _⟩ := hr hp
 exact ⟨b, off, cap, rfl, hc⟩
theorem ss_take (l : List ByteArray) (k : Nat) : (ss l).take k = ss (l.take k) := by simp [ss]
theorem ss_drop (l : List ByteArray) (k : Nat) : (ss l).drop k = ss (l.drop k) := by simp [ss]
set_option maxRecDepth 1000000 in
theorem root_any : ∀ (N : Nat) (l : List ByteArray), l.length ≤ N → ∀ (w : World) (v : Value), Sl w v (ss l) → l.length ≤ 1000000 → (∀ s ∈ l, s.size ≤ 10000000000) →
  Calls Tryz.prog 83 #[v] w fun e w' => e = .returned (.string (root l)) ∧ Below w.heap.size w w' := by
 intro N
 induction N with
 | zero =>
  intro l hN w v h hl hz
  obtain rfl : l = [] := List.eq_nil_of_length_eq_zero (by omega)
  have HN : Hid (root [] = Plain.txt (digest [])) := root_nil
  obtain ⟨ao, cap, rfl, _⟩ := h
  have q := digest_spec (w.alloc (.cells #[] 5)) (.slice (some ⟨w.heap.size, 0, none⟩) 0 0) [] (Own.emptyB w w.heap.size (Nat.le_refl _)).sl (by intro x hx; cases hx) (by simp)
  have hB : Below w.heap.size w (w.alloc (.cells #[] 5)) := (Below.refl _ _).alloc (Nat.le_refl _) _
  rw [ss_len]
  go_enter Tryz.func83, Tryz.ntmps83
  go_wp2_with fail
  refine q.mono ?_
  rintro e w1 ⟨rfl, b1⟩
  have hB1 : Below w.heap.size w w1 := hB.trans (b1.mono hB.size)
  go_wp2
  go_ret
  exact ⟨by rw [HN.out]; rfl, hB1⟩
 | succ N ih =>
  intro l hN w v h hl hz
  by_cases h0 : l.length ≤ N
  ·exact ih l h0 w v h hl hz
  obtain ⟨b, off, cap, rfl, hcap⟩ := slForm h (by rw [ss_len]; omega)
  rw [ss_len] at h hcap ⊢
  by_cases h1 : l.length = 1
  ·obtain ⟨s, rfl⟩ := List.length_eq_one_iff.1 h1
   have HN : Hid (root [s] = leafH s) := root_one s
   have q := leaf_spec w s (by have := hz s (by simp); omega)
   have c0 : w.cell? ⟨b, off, none⟩ = some (.string s) := by
    obtain ⟨ao', c', he, _, _, hr⟩ := h
    simp only [Value.slice.injEq] at he
    obtain ⟨rfl, _, rfl⟩ := he
    obtain ⟨b', off', he', hcell⟩ := hr (by simp [ss])
    simp only [Option.some.injEq, Addr.mk.injEq] at he'
    obtain ⟨rfl, rfl, _⟩ := he'
    have := hcell 0 (by simp [ss])
    simpa [ss] using this
   clear ih h hz hN h0 h1
   go_enter Tryz.func83, Tryz.ntmps83
   go_wp2_with fail
   refine q.mono ?_
   rintro e w1 ⟨rfl, b1⟩
   go_wp2
   go_ret
   exact ⟨by rw [HN.out]; rfl, b1⟩
  ·have h2 : 2 ≤ l.length := by omega
   have hk := half_ok h2
   have hp := half_pos h2
   have HN : Hid (root l = nodeH (root (l.take (half l.length))) (root (l.drop (half l.length)))) := root_more h2
   have q0 := half_spec w l.length (by omega)
   have z1 := root_size (l.take (half l.length))
   have z2 := root_size (l.drop (half l.length))
   obtain ⟨k, hkk⟩ : ∃ k, half l.length = k := ⟨_, rfl⟩
   rw [hkk] at hk hp HN q0 z1 z2
   obtain ⟨_, hk1, hk2⟩ := hk
   clear hkk
   have s1 : Sl w (.slice (some ⟨b, off, none⟩) k cap) (ss (l.take k)) := by rw [← ss_take]; exact h.front k (by rw [ss_len]; omega)
   have s2 : Sl w (.slice (some ⟨b, off + k, none⟩) (l.length - k) (cap - k)) (ss (l.drop k)) := by rw [← ss_drop]; exact slBack h k (by rw [ss_len]; omega)
   have q1 : ∀ W, Below w.heap.size w W → _ := fun W hW => ih (l.take k) (by rw [List.length_take]; omega) W _ (s1.later hW) (by rw [List.length_take]; omega) (fun s hs => hz s (List.mem_of_mem_take hs))
   have q2 : ∀ W, Below w.heap.size w W → _ := fun W hW => ih (l.drop k) (by rw [List.length_drop]; omega) W _ (s2.later hW) (by rw [List.length_drop]; omega) (fun s hs => hz s (List.mem_of_mem_drop hs))
   obtain ⟨x, hx⟩ : ∃ x, root (l.take k) = x := ⟨_, rfl⟩
   obtain ⟨y, hy⟩ : ∃ x, root (l.drop k) = x := ⟨_, rfl⟩
   rw [hx, hy] at HN
   rw [hx] at z1
   rw [hy] at z2
   simp only [hx] at q1
   simp only [hy] at q2
   have q3 : ∀ W, _ := fun W => node_spec W x y (by omega) (by omega)
   have d0 : ((l.length : Int) == 0) = false := by rw [beq_eq_false_iff_ne]; omega
   have d1 : ((l.length : Int) == 1) = false := by rw [beq_eq_false_iff_ne]; omega
   have v1 : (k : Int) ≤ (l.length : Int) := by omega
   have v2 : (k : Int) ≤ (cap : Int) := by omega
   have v3 : (l.length : Int) ≤ (cap : Int) := by omega
   have vne : ¬ cap = k := by omega
   have hB0 : Below w.heap.size w w := Below.refl _ _
   clear ih h hz hN h0 h1 hx hy s1 s2
   go_enter Tryz.func83, Tryz.ntmps83
   go_wp2_with (go_at_call 131; refine q0.mono ?_; rintro e w1 ⟨rfl, hw1⟩; have hw1 := hw1.symm; subst hw1)
   refine wp_region_held_drew (S := fun _ => True) (by kernel_rfl) trivial (fun hHeld => ?_)
   (refine wpAnyH_take (i := 0) (v := ?v0x1) rfl (by kernel_rfl) (by kernel_rfl) (by kernel_rfl) (fun _ _ _ h => h) (Or.inl ⟨by rfl, ?hy0x1⟩) (by assumption) ?rest0x1; case hy0x1 => (intro w hSw; (try dsimp only at hSw); go_split_ands; go_simp; (try with_reducible rfl)))
   try simp only [Act.put, pq]
   (refine wpAnyH_take (i := 1) (v := ?v1x2) rfl (by kernel_rfl) (by kernel_rfl) (by kernel_rfl) (fun _ _ _ h => h) (Or.inl ⟨by rfl, ?hy1x2⟩) (by assumption) ?rest1x2; case hy1x2 => (intro w hSw; (try dsimp only at hSw); go_split_ands; go_simp; (try with_reducible rfl)))
   try simp only [Act.put, pq]
   (refine wpAnyH_take (i := 2) (v := ?v2x3) rfl (by kernel_rfl) (by kernel_rfl) (by kernel_rfl) (fun _ _ _ h => h) (Or.inl ⟨by rfl, ?hy2x3⟩) (by assumption) ?rest2x3; case hy2x3 => (intro w hSw; (try dsimp only at hSw); go_split_ands; go_simp; (try with_reducible rfl)))
   try simp only [Act.put, pq]
   (refine wpAnyH_take (i := 4) (v := ?v4x4) rfl (by kernel_rfl) (by kernel_rfl) (by kernel_rfl) (fun _ _ _ h => h) (Or.inl ⟨by rfl, ?hy4x4⟩) (by assumption) ?rest4x4; case hy4x4 => (intro w hSw; (try dsimp only at hSw); go_split_ands; go_simp; (try with_reducible rfl)))
   try simp only [Act.put, pq]
   (refine wpAnyH_take (i := 5) (v := ?v5x5) rfl (by kernel_rfl) (by kernel_rfl) (by kernel_rfl) (fun _ _ _ h => h) (Or.inl ⟨by rfl, ?hy5x5⟩) (by assumption) ?rest5x5; case hy5x5 => (intro w hSw; (try dsimp only at hSw); go_split_ands; go_simp; (try with_reducible rfl)))
   try simp only [Act.put, pq]
   (refine wpAnyH_take (i := 6) (v := ?v6x6) rfl (by kernel_rfl) (by kernel_rfl) (by kernel_rfl) (fun _ _ _ h => h) (Or.inl ⟨by rfl, ?hy6x6⟩) (by assumption) ?rest6x6; case hy6x6 => (intro w hSw; (try dsimp only at hSw); go_split_ands; go_simp; (try with_reducible rfl)))
   try simp only [Act.put, pq]
   refine wpAnyH_ready (rs := [3]) (by kernel_rfl) (by simp) ?_
   refine AllReadyH.cons rfl (fun K hK => ?_) AllReadyH.nil
   go_simp
   refine (q1 _ (Below.drew hB0)).mono ?_
   rintro e w2 ⟨rfl, b2⟩
   refine hK.out _ _ trivial (fun hHeld => ?_)
   clear hK K
   try simp only [Act.put, pq]
   have B2 : Below w.heap.size w w2 := (Below.drew hB0).trans b2
   refine wpAnyH_ready (rs := [7]) (by kernel_rfl) (by simp) ?_
   refine AllReadyH.cons rfl (fun K hK => ?_) AllReadyH.nil
   go_simp
   refine (q2 _ B2).mono ?_
   rintro e w3 ⟨rfl, b3⟩
   refine hK.out _ _ trivial (fun hHeld => ?_)
   clear hK K
   try simp only [Act.put, pq]
   have B3 : Below w.heap.size w w3 := B2.trans (b3.mono B2.size)
   refine wpAnyH_ready (rs := [8]) (by kernel_rfl) (by simp) ?_
   refine AllReadyH.cons rfl (fun K hK => ?_) AllReadyH.nil
   go_simp
   refine (q3 _).mono ?_
   rintro e w4 ⟨rfl, b4⟩
   refine hK.out _ _ trivial (fun hHeld => ?_)
   clear hK K
   try simp only [Act.put, pq]
   have B4 : Below w.heap.size w w4 := B3.trans (b4.mono B3.size)
   (refine wpAnyH_take (i := 9) (v := ?v9x7) rfl (by kernel_rfl) (by kernel_rfl) (by kernel_rfl) (fun _ _ _ h => h) (Or.inl ⟨by rfl, ?hy9x7⟩) (by assumption) ?rest9x7; case hy9x7 => (intro w hSw; (try dsimp only at hSw); go_split_ands; go_simp; (try with_reducible rfl)))
   try simp only [Act.put, pq]
   refine wpAnyH_done (by kernel_rfl) ?_ _
   clear hHeld
   go_wp2
   go_ret
   exact ⟨by rw [HN.out]; rfl, B4⟩
theorem emptyT (w : World) (lo : Nat) (h : lo ≤ w.heap.size) : Own (w.alloc (.cells #[] 9)) lo (w.alloc (.cells #[] 9)).heap.size 9 (.slice (some ⟨w.heap.size, 0, none⟩) 0 0) (ss []) :=
 Own.of (World.ownsRow_lit w #[] 0 h (Nat.zero_le _) rfl)
theorem oneT (s : ByteArray) : ∀ u ∈ [Value.string s], u.oneCell' = true := by
 intro u hu
 simp at hu
 subst hu
 rfl
theorem info9t : (Tryz.prog.info? 9).map (fun i => (i.zero, i.size, i.bytes)) = some (some (.string ⟨#[]⟩), 1, 16) := by kernel_rfl
theorem oneS (w : World) (lo : Nat) (x : ByteArray) (h : lo ≤ w.heap.size) : Own (w.alloc (.cells #[.string x] 9)) lo (w.alloc (.cells #[.string x] 9)).heap.size 9 (.slice (some ⟨w.heap.size, 0, none⟩) 1 1) (ss [x]) := by
 exact Own.of (World.ownsRow_lit (e := 9) (base := lo) (size := 1) w #[.string x] 1 h (by unfold maxLen; omega) rfl)
theorem slLast {w : World} {v : Value} {q : List ByteArray} {last : ByteArray} (h : Sl w v (ss (q ++ [last]))) : ∃ b off cap L, v = .slice (some ⟨b, off, none⟩) L cap ∧ L ≤ q.length + 1 ∧ q.length + 1 ≤ L ∧ L ≤ cap ∧
  w.cell? ⟨b, off + (L - 1), none⟩ = some (.string last) ∧ Sl w (.slice (some ⟨b, off, none⟩) (L - 1) cap) (ss q) := by
 have hl : (ss (q ++ [last])).length = q.length + 1 := by rw [ss_len, List.length_append]; rfl
 obtain ⟨b, off, cap, rfl, hcap⟩ := slForm h (by omega)
 refine ⟨b, off, cap, (ss (q ++ [last])).length, rfl, by omega, by omega, hcap, ?_, ?_⟩
 ·obtain ⟨ao', c', he, _, _, hr⟩ := h
  simp only [Value.slice.injEq] at he
  obtain ⟨rfl, _, rfl⟩ := he
  obtain ⟨b', off', he', hcell⟩ := hr (by omega)
  simp only [Option.some.injEq, Addr.mk.injEq] at he'
  obtain ⟨rfl, rfl, _⟩ := he'
  rw [hcell _ (by omega), hl]
  simp [ss]
 ·have := h.front ((ss (q ++ [last])).length - 1) (by omega)
  rw [ss_take, show (q ++ [last]).take ((ss (q ++ [last])).length - 1) = q by rw [hl]; simp] at this
  exact this
def eq6 (a b : ByteArray) : Bool := a.toList == b.toList
def rootOf (l : List ByteArray) : ByteArray := if l.length ≤ 200 then root l else ⟨#[]⟩
set_option maxRecDepth 1000000 in
theorem in6 (w : World) (n a b : Int) : Calls Tryz.prog 48 #[.int .i64 n, .int .i64 a, .int .i64 b] w fun e w' => e = .returned (.bool (decide (a ≤ n ∧ n ≤ b))) ∧ w = w' := by
 obtain ⟨t, ht⟩ : ∃ t, decide (a ≤ n ∧ n ≤ b) = t := ⟨_, rfl⟩
 rw [ht]
 by_cases h1 : a ≤ n
 ·by_cases h2 : n ≤ b
  ·have HD : Hid (t = true) := by show _ = _; rw [← ht]; simp [h1, h2]
   clear ht
   go_enter Tryz.func48, Tryz.ntmps48
   go_wp2
   go_ret
   exact ⟨by rw [HD.out]; rfl, rfl⟩
  ·have HD : Hid (t = false) := by show _ = _; rw [← ht]; simp [h2]
   clear ht
   go_enter Tryz.func48, Tryz.ntmps48
   go_wp2
   go_ret
   exact ⟨by rw [HD.out]; rfl, rfl⟩
 ·have HD : Hid (t = false) := by show _ = _; rw [← ht]; simp [h1]
  clear ht
  go_enter Tryz.func48, Tryz.ntmps48
  go_wp2
  go_ret
  exact ⟨by rw [HD.out]; rfl, rfl⟩
theorem in6t (w : World) {n a b : Int} (h : a ≤ n ∧ n ≤ b) : Calls Tryz.prog 48 #[.int .i64 n, .int .i64 a, .int .i64 b] w fun e w' => e = .returned (.bool true) ∧ w = w' := by
 have q := in6 w n a b
 rwa [decide_eq_true h] at q
theorem in6f (w : World) {n a b : Int} (h : ¬ (a ≤ n ∧ n ≤ b)) : Calls Tryz.prog 48 #[.int .i64 n, .int .i64 a, .int .i64 b] w fun e w' => e = .returned (.bool false) ∧ w = w' := by
 have q := in6 w n a b
 rwa [decide_eq_false h] at q
end Go.Proofs.YtchonoonclllbaaGreatDoor.Tr
namespace Go.Proofs.YtchonoonclllbaaGreatDoor.He
open Go.RowKit Mem Laws Sha Tr
structure Hd where
 n : Int
 r : ByteArray
theorem Hd.ext' {a b : Hd} (h1 : a.n = b.n) (h2 : a.r = b.r) : a = b := by cases a; cases b; simp_all
def Hd.cs (h : Hd) : List Value := [.int .i64 h.n, .string h.r]
def hc (h : Hd) : Array Value := #[.int .i64 h.n, .string h.r]
def hds : List Hd → List Value
 | [] => []
 | h :: r => .int .i64 h.n :: .string h.r :: hds r
theorem hds_app (l m : List Hd) : hds (l ++ m) = hds l ++ hds m := by
 induction l with
 | nil => rfl
 | cons q r ih => simp [hds, ih]
theorem hds_snoc (l : List Hd) (n : Hd) : hds (l ++ [n]) = hds l ++ n.cs := by rw [hds_app]; rfl
theorem hds_get : ∀ (l : List Hd) (k : Nat) (q : Hd), l[k]? = some q → (hds l)[k * 2]? = some (.int .i64 q.n) ∧ (hds l)[k * 2 + 1]? = some (.string q.r) := by
 intro l
 induction l with
 | nil => intro k q h; simp at h
 | cons x r ih =>
  intro k q h
  cases k with
  | zero => simp at h; subst h; exact ⟨rfl, rfl⟩
  | succ k =>
   have := ih k q (by simpa using h)
   have e : (k + 1) * 2 = k * 2 + 2 := by omega
   rw [e]
   exact this
def Sh (w : World) (v : Value) (l : List Hd) : Prop := Sn 2 w v l.length (hds l)
def Oh (w : World) (lo hi : Nat) (v : Value) (l : List Hd) : Prop := On 2 w lo hi 26 v l.length (hds l)
theorem Oh.sh {w : World} {lo hi : Nat} {v : Value} {l : List Hd} (h : Oh w lo hi v l) : Sh w v l := On.sn h
theorem Sh.later {w w' : World} {v : Value} {l : List Hd} (h : Sh w v l) (hb : Below w.heap.size w w') : Sh w' v l := Sn.later h hb
theorem Oh.later {w w' : World} {lo hi B : Nat} {v : Value} {l : List Hd} (h : Oh w lo hi v l) (hb : Below B w w') (hB : hi ≤ B) : Oh w' lo hi v l := On.later h hb hB
theorem Sh.form {w : World} {v : Value} {l : List Hd} (h : Sh w v l) : ∃ ao cap, v = .slice ao l.length cap ∧ l.length ≤ cap := by
 obtain ⟨_, ao, cap, rfl, hc, _⟩ := h
 exact ⟨ao, cap, rfl, hc⟩
theorem Sh.at {w : World} {v : Value} {l : List Hd} (h : Sh w v l) {k : Nat} {q : Hd} (hq : l[k]? = some q) : ∃ b off cap, v = .slice (some ⟨b, off, none⟩) l.length cap ∧ l.length ≤ cap ∧
  w.cell? ⟨b, off + k * 2, none⟩ = some (.int .i64 q.n) ∧ w.cell? ⟨b, off + k * 2 + 1, none⟩ = some (.string q.r) := by
 have hk : k < l.length := (List.getElem?_eq_some_iff.1 hq).1
 obtain ⟨b, off, cap, rfl, hc, hr⟩ := Sn.at h hk
 obtain ⟨h0, h1⟩ := hds_get l k q hq
 refine ⟨b, off, cap, rfl, hc, ?_, ?_⟩
 ·have := hr 0 (by omega); rw [Nat.add_zero, h0] at this; exact this
 ·have := hr 1 (by omega); rw [h1, ← Nat.add_assoc] at this; exact this
theorem sizeH (h : Hd) : (Tryz.prog.info? 26).map (·.size) = some (hc h).size := by
 show _ = some 2
 kernel_rfl
theorem oneH (h : Hd) : (hc h).all (·.oneCell') = true := by simp [hc, Value.oneCell']
def hd0 : Hd := ⟨0, ⟨#[]⟩⟩
def okH (h : Hd) : Bool := decide ((0 ≤ h.n ∧ h.n ≤ 200) ∧ h.r.size = 32)
def headOf (l : List ByteArray) : Hd := if l.length ≤ 200 then ⟨l.length, root l⟩ else hd0
def eqH (a b : Hd) : Bool := (a.n == b.n) && (a.r.toList == b.r.toList)
def signed (t : List Hd) (h : Hd) : Bool := t.any (fun x => eqH x h)
def bestF : Hd → List Hd → Hd
 | b, [] => b
 | b, x :: r => if b.n < x.n then bestF x r else bestF b r
def best : List Hd → Hd
 | [] => hd0
 | x :: r => bestF x r
def apart (h x : Hd) : Bool := decide (x.n = h.n) && !eq6 x.r h.r
end Go.Proofs.YtchonoonclllbaaGreatDoor.He
