/- Chapter 8: clashes, plain facts alone. -/
import Derived.Test.YtccnhhdcdamgmaaDoorTr1
namespace Go.Proofs.YtccnhhdcdamgmaaDoor.Cl
open Go.RowKit Go.Proofs.YtccnhhdcdamgmaaDoor.Mem Go.Proofs.YtccnhhdcdamgmaaDoor.Laws Go.Proofs.YtccnhhdcdamgmaaDoor.Sha Go.Proofs.YtccnhhdcdamgmaaDoor.Tr
set_option linter.unusedVariables false
set_option linter.unusedSimpArgs false

/-- what a leaf's hash, a node's, is the digest of -/
def leafT (s : ByteArray) : ByteArray := Plain.txt (0 :: sb s)
def nodeT (a b : ByteArray) : ByteArray := Plain.txt (1 :: (sb a ++ sb b))
theorem byt0 (s : ByteArray) : Byt (0 :: sb s) := by
  intro x hx
  rcases List.mem_cons.1 hx with rfl | hx
  · omega
  · exact sb_byt s x hx
theorem byt1 (a b : ByteArray) : Byt (1 :: (sb a ++ sb b)) := by
  intro x hx
  rcases List.mem_cons.1 hx with rfl | hx
  · omega
  · exact ((sb_byt a).app (sb_byt b)) x hx
theorem sb_leafT (s : ByteArray) : sb (leafT s) = 0 :: sb s := sb_txt (byt0 s)
theorem sb_nodeT (a b : ByteArray) : sb (nodeT a b) = 1 :: (sb a ++ sb b) := sb_txt (byt1 a b)
theorem sb_inj {a b : ByteArray} (h : sb a = sb b) : a = b := by
  have h1 : a.data.toList = b.data.toList := by
    unfold sb at h
    refine List.map_inj_right (f := fun x : UInt8 => (x.toNat : Int)) ?_ |>.1 h
    intro x y hxy
    exact UInt8.toNat_inj.1 (by omega)
  cases a
  cases b
  simp only at h1
  rw [Array.ext' h1]
theorem leafT_inj {s t : ByteArray} (h : leafT s = leafT t) : s = t := by
  have := congrArg sb h
  rw [sb_leafT, sb_leafT] at this
  exact sb_inj (List.cons.inj this).2
theorem nodeT_inj {a b x y : ByteArray} (ha : a.size = x.size) (h : nodeT a b = nodeT x y) : a = x ∧ b = y := by
  have := congrArg sb h
  rw [sb_nodeT, sb_nodeT] at this
  have h2 := List.append_inj (List.cons.inj this).2 (by rw [sb_len, sb_len, ha])
  exact ⟨sb_inj h2.1, sb_inj h2.2⟩
/-- the digest of a text -/
def dg (s : ByteArray) : ByteArray := Plain.txt (digest (sb s))
theorem dg_leafT (s : ByteArray) : dg (leafT s) = leafH s := by unfold dg leafH; rw [sb_leafT]
theorem dg_nodeT (a b : ByteArray) : dg (nodeT a b) = nodeH a b := by unfold dg nodeH; rw [sb_nodeT]
theorem dg_size (s : ByteArray) : (dg s).size = 32 := by unfold dg; rw [txt_size, digest_len]

/-- two unlike texts of unlike lists as long (f: more than they have) -/
def clashF : Nat → List ByteArray → List ByteArray → ByteArray × ByteArray
  | 0, _, _ => (⟨#[]⟩, ⟨#[]⟩)
  | f + 1, l, m =>
    if 2 ≤ l.length then
      (if root (l.take (half l.length)) = root (m.take (half l.length)) ∧ root (l.drop (half l.length)) = root (m.drop (half l.length)) then
        (if l.take (half l.length) = m.take (half l.length) then clashF f (l.drop (half l.length)) (m.drop (half l.length))
         else clashF f (l.take (half l.length)) (m.take (half l.length)))
       else (nodeT (root (l.take (half l.length))) (root (l.drop (half l.length))), nodeT (root (m.take (half l.length))) (root (m.drop (half l.length)))))
    else (leafT (l.headD ⟨#[]⟩), leafT (m.headD ⟨#[]⟩))
theorem clashF_any : ∀ (f g : Nat) (l m : List ByteArray), l.length < f → l.length < g → clashF f l m = clashF g l m := by
  intro f
  induction f with
  | zero => intro g l m hf; omega
  | succ f ih =>
    intro g l m hf hg
    cases g with
    | zero => omega
    | succ g =>
      by_cases h : 2 ≤ l.length
      · have h1 := take_lt h
        have h2 := drop_lt h
        rw [clashF, clashF, if_pos h, if_pos h, ih g (l.drop (half l.length)) (m.drop (half l.length)) (by omega) (by omega), ih g (l.take (half l.length)) (m.take (half l.length)) (by omega) (by omega)]
      · rw [clashF, clashF, if_neg h, if_neg h]
def clash (l m : List ByteArray) : ByteArray × ByteArray := clashF (l.length + 1) l m
theorem clash_if (l m : List ByteArray) : clash l m = if 2 ≤ l.length then
      (if root (l.take (half l.length)) = root (m.take (half l.length)) ∧ root (l.drop (half l.length)) = root (m.drop (half l.length)) then
        (if l.take (half l.length) = m.take (half l.length) then clash (l.drop (half l.length)) (m.drop (half l.length))
         else clash (l.take (half l.length)) (m.take (half l.length)))
       else (nodeT (root (l.take (half l.length))) (root (l.drop (half l.length))), nodeT (root (m.take (half l.length))) (root (m.drop (half l.length)))))
    else (leafT (l.headD ⟨#[]⟩), leafT (m.headD ⟨#[]⟩)) := by
  unfold clash
  by_cases h : 2 ≤ l.length
  · have h1 := take_lt h
    have h2 := drop_lt h
    rw [clashF, if_pos h, if_pos h, clashF_any l.length ((l.drop (half l.length)).length + 1) (l.drop (half l.length)) (m.drop (half l.length)) (by omega) (by omega), clashF_any l.length ((l.take (half l.length)).length + 1) (l.take (half l.length)) (m.take (half l.length)) (by omega) (by omega)]
  · rw [clashF, if_neg h, if_neg h]
/-- of unlike lists as long they are unlike, and of one digest just if the roots are the same -/
theorem clash_ok (l : List ByteArray) : ∀ (m : List ByteArray), l.length = m.length → l ≠ m → (clash l m).1 ≠ (clash l m).2 ∧ (dg (clash l m).1 = dg (clash l m).2 ↔ root l = root m) := by
  refine lenRec (P := fun l => ∀ (m : List ByteArray), l.length = m.length → l ≠ m → (clash l m).1 ≠ (clash l m).2 ∧ (dg (clash l m).1 = dg (clash l m).2 ↔ root l = root m)) ?_ l
  intro l ih m hlm hne
  rw [clash_if]
  by_cases h : 2 ≤ l.length
  · have hk := half_ok h
    have hp := half_pos h
    have hm : 2 ≤ m.length := by omega
    have lt : (l.take (half l.length)).length = (m.take (half l.length)).length := by rw [List.length_take, List.length_take, hlm]
    have ld : (l.drop (half l.length)).length = (m.drop (half l.length)).length := by rw [List.length_drop, List.length_drop, hlm]
    have rm : root m = nodeH (root (m.take (half l.length))) (root (m.drop (half l.length))) := by rw [root_more hm, ← hlm]
    rw [if_pos h]
    by_cases hr : root (l.take (half l.length)) = root (m.take (half l.length)) ∧ root (l.drop (half l.length)) = root (m.drop (half l.length))
    · rw [if_pos hr]
      have hroot : root l = root m := by rw [root_more h, rm, hr.1, hr.2]
      by_cases hs : l.take (half l.length) = m.take (half l.length)
      · rw [if_pos hs]
        have hd : l.drop (half l.length) ≠ m.drop (half l.length) := by
          intro e
          apply hne
          rw [← List.take_append_drop (half l.length) l, hs, e, List.take_append_drop]
        obtain ⟨a, b⟩ := ih (l.drop (half l.length)) (drop_lt h) (m.drop (half l.length)) ld hd
        exact ⟨a, fun _ => hroot, fun _ => b.2 hr.2⟩
      · rw [if_neg hs]
        obtain ⟨a, b⟩ := ih (l.take (half l.length)) (take_lt h) (m.take (half l.length)) lt hs
        exact ⟨a, fun _ => hroot, fun _ => b.2 hr.1⟩
    · rw [if_neg hr]
      refine ⟨fun e => hr (nodeT_inj (by rw [root_size, root_size]) e), ?_⟩
      show dg (nodeT _ _) = dg (nodeT _ _) ↔ _
      rw [dg_nodeT, dg_nodeT, root_more h, rm]
  · rw [if_neg h]
    match l, m, hlm, hne, h with
    | [], [], _, hne, _ => exact absurd rfl hne
    | [s], [t], _, hne, _ =>
      have hst : s ≠ t := fun e => hne (by rw [e])
      refine ⟨fun e => hst (leafT_inj e), ?_⟩
      show dg (leafT s) = dg (leafT t) ↔ root [s] = root [t]
      rw [dg_leafT, dg_leafT, root_one, root_one]
    | _ :: _ :: _, _, _, _, h => simp at h

end Go.Proofs.YtccnhhdcdamgmaaDoor.Cl
