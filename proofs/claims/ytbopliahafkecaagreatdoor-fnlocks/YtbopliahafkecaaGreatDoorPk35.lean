/- Texts in one: ModK, ModP, ModQ, ModS, ModT, ModV, ModW, ModY. -/
import Derived.Test.YtbopliahafkecaaGreatDoorPk8
import Derived.Test.YtbopliahafkecaaGreatDoorPk26
import Derived.Test.YtbopliahafkecaaGreatDoorPk16
import Derived.Test.YtbopliahafkecaaGreatDoorPk10
import Derived.RangeFuncNested
import Derived.RangeFuncBound
import Derived.RangeFuncCalls
import Derived.RangeFuncLeaves
import Derived.Shelf.Abstract
import Derived.Shelf.RegionOpen
import Derived.WalkKit
import Derived.OwnWalkIn
import Derived.TacticsInMore
import Derived.LoopNIn
import Derived.LoopIn
import Derived.Lib.Strings
import Derived.Lib.Walk
import Derived.Lib.BufferWrite
import Derived.Lib.UnsafeStr
import Derived.Lib.Hide
import Derived.Laws.MakeOwn
/- Chapter 4: what a range over an iterator keeps; paths told by their parts. -/
namespace Go.Proofs.YtbopliahafkecaaGreatDoor.Mod
open Go.RowKit Go.Shelf Go.Proofs.YtbopliahafkecaaGreatDoor.Mem Go.Proofs.YtbopliahafkecaaGreatDoor.Laws Go.Proofs.YtbopliahafkecaaGreatDoor.Bytes Go.Proofs.YtbopliahafkecaaGreatDoor.Sha Go.Proofs.YtbopliahafkecaaGreatDoor.Ver
set_option linter.unusedVariables false
set_option linter.unusedSimpArgs false
attribute [local go_sem] Oper.semAt_some

/-- a text that is no longer than a path may be -/
abbrev T60 := { t : ByteArray // t.size ≤ 60 }
/-- what a round keeps for the iterator: the box of its text, and its walk -/
def Kp (b : Nat) (A B : World) : Prop := (∀ t v, Boxed A b t v → Boxed B b t v) ∧ KeepsWalks A B
theorem Kp_t {b : Nat} {A B C : World} (h : Kp b A B) (k : Kp b B C) : Kp b A C := ⟨fun t v hv => k.1 t v (h.1 t v hv), h.2.trans k.2⟩
theorem Kp_b {b : Nat} {w : World} (W : World) (l : Nat) (o o' : Obj) (hl : w.heap.size ≤ l) (h : W.heap[l]? = some o) (h1 : o.isCells = false) (h2 : o.isWalk = false) : Kp b W (W.putObj l o') := by
  refine ⟨fun t v hv => ?_, walksK_b (w := w) W l o o' hl h h1 h2⟩
  unfold Boxed at hv ⊢
  by_cases e : b = l
  · subst e
    rw [h] at hv
    cases hv
    cases h1
  · rw [World.putObj_heap_other e]
    exact hv
theorem Boxed.same {b t : Nat} {v : Value} {A B : World} (hv : Boxed A b t v) (h : Below A.heap.size A B) : Boxed B b t v := (h.block b hv.lt).trans hv
theorem Kp_below {b : Nat} {A B : World} (h : Below A.heap.size A B) : Kp b A B :=
  ⟨fun t v hv => Boxed.same hv h, ⟨h.size, fun k o hk _ => (h.block k (Array.getElem?_eq_some_iff.1 hk).1).trans hk⟩⟩
theorem Kp_set {b g : Nat} (A : World) (v : Value) (hne : b ≠ g) : Kp b A (A.setCell ⟨g, 0, none⟩ v) := ⟨fun t u hu => Boxed.other hu hne v, KeepsWalks.setCell _ _ _⟩
theorem others_below {A B : World} (h : Below A.heap.size A B) : KeepsOthers A B := ⟨h.size, fun k o hk _ => (h.block k (Array.getElem?_eq_some_iff.1 hk).1).trans hk⟩

def bad4 (pre : List T60) : Prop := 6 < pre.length ∨ ∃ t ∈ pre, part4 (sb t.1) = false
theorem bad4_path {s : ByteArray} {pre : List T60} (h : bad4 pre) (hp : pre.map (·.1) <+: splitT 47 s) : path4 (sb s) = false := by
  have hT := splitT_sb 47 s
  have hl : (split 47 (sb s)).length = (splitT 47 s).length := by rw [← hT, List.length_map]
  have hpl := hp.length_le
  rw [List.length_map] at hpl
  unfold path4
  rcases h with h | ⟨t, ht, hb⟩
  · have : ¬ (split 47 (sb s)).length ≤ 6 := by omega
    simp [this]
  · have : (split 47 (sb s)).all part4 = false := by
      rw [List.all_eq_false]
      refine ⟨sb t.1, ?_, by simp [hb]⟩
      rw [← hT]
      exact List.mem_map.2 ⟨t.1, hp.subset (List.mem_map.2 ⟨t, ht, rfl⟩), rfl⟩
    simp [this]
theorem good4_path {s : ByteArray} {xs : List T60} (hs : s.size ≤ 60) (h : xs.map (·.1) = splitT 47 s) (h6 : xs.length ≤ 6) (hg : ∀ t ∈ xs, part4 (sb t.1) = true) : path4 (sb s) = true := by
  have hT := splitT_sb 47 s
  have hl : (split 47 (sb s)).length = xs.length := by rw [← hT, List.length_map, ← h, List.length_map]
  unfold path4
  have h1 : (split 47 (sb s)).all part4 = true := by
    rw [← hT, ← h, List.all_eq_true]
    intro x hx
    simp only [List.map_map, List.mem_map] at hx
    obtain ⟨t, ht, rfl⟩ := hx
    exact hg t ht
  rw [h1, hl, sb_len]
  simp [h6, hs]

end Go.Proofs.YtbopliahafkecaaGreatDoor.Mod

/- Chapter 4, the landed code: the iterator over the parts of a path. -/
namespace Go.Proofs.YtbopliahafkecaaGreatDoor.Mod
open Go.RowKit Go.Shelf Go.Proofs.YtbopliahafkecaaGreatDoor.Mem Go.Proofs.YtbopliahafkecaaGreatDoor.Laws Go.Proofs.YtbopliahafkecaaGreatDoor.Bytes Go.Proofs.YtbopliahafkecaaGreatDoor.Sha Go.Proofs.YtbopliahafkecaaGreatDoor.Ver
set_option linter.unusedVariables false
set_option linter.unusedSimpArgs false
attribute [local go_sem] Oper.semAt_some

theorem grown_below {A B : World} (h : Below A.heap.size A B) : A.grownBy B none := ⟨h.os, h.tape, h.output, h.size, fun j hj _ => h.block j hj⟩

theorem back_map (Q : List T60) : (Q.map (fun t => sb t.1)).map Plain.txt = Q.map (·.1) := by
  rw [List.map_map]
  apply List.map_congr_left
  intro t _
  exact txt_sbv t.1
theorem pre_of {s : ByteArray} {Q : List T60} {R : List (List Int)} (h : Q.map (fun t => sb t.1) ++ R = split 47 (sb s)) : Q.map (·.1) <+: splitT 47 s := by
  unfold splitT
  rw [← h, List.map_append, back_map]
  exact List.prefix_append _ _
theorem all_of {s : ByteArray} {Q : List T60} (h : Q.map (fun t => sb t.1) = split 47 (sb s)) : Q.map (·.1) = splitT 47 s := by
  unfold splitT
  rw [← h, back_map]
theorem sb_ext (s : ByteArray) (f k : Nat) : sb (s.extract f k) = ((sb s).drop f).take (k - f) := by
  rw [ext_txt]
  exact sb_txtv (fun x hx => sb_byt s x (List.mem_of_mem_drop (List.mem_of_mem_take hx)))
theorem cut_no {R : ByteArray} (h : (sb R).findIdx? (fun c => c == 47) = none) : split 47 (sb R) = [sb R] := by
  unfold split
  rw [splitL_none 47 _ _ (fun x hx e => by have := List.findIdx?_eq_none_iff.1 h x hx; simp [e] at this)]
  simp
theorem cut_yes {R : ByteArray} {i : Nat} (h : (sb R).findIdx? (fun c => c == 47) = some i) : split 47 (sb R) = sb (R.extract 0 i) :: split 47 (sb (R.extract (i + 1) R.size)) := by
  obtain ⟨hi, h1, h2⟩ := List.findIdx?_eq_some_iff_getElem.1 h
  have h1' : (sb R)[i] = 47 := by simpa using h1
  have e : sb R = (sb R).take i ++ [47] ++ (sb R).drop (i + 1) := by
    rw [← h1', List.append_assoc]
    simp
  have e1 : sb (R.extract 0 i) = (sb R).take i := by rw [sb_ext]; simp
  have e2 : sb (R.extract (i + 1) R.size) = (sb R).drop (i + 1) := by
    rw [sb_ext, List.take_of_length_le (by rw [List.length_drop, sb_len]; omega)]
  rw [e1, e2]
  unfold split
  conv => lhs; rw [e]
  rw [splitL_app, splitL_none 47 ((sb R).take i) [] ?_]
  · simp
  · intro x hx
    obtain ⟨j, hj, rfl⟩ := List.getElem_of_mem hx
    rw [List.getElem_take]
    have hj' : j < i := by rw [List.length_take] at hj; omega
    have := h2 j hj'
    simpa using this

set_option maxRecDepth 1000000 in
set_option maxHeartbeats 4000000 in
theorem parts_stops (n : Nat) (hn : 1 ≤ n) (w : World) (b : Nat) (s : ByteArray) (hs : s.size ≤ 60) (hb : Boxed w b 9 (.string s)) :
    SeqStopsK Fence.wide n Tryz.prog 125 #[.pointer (some ⟨b, 0, none⟩)] (fun t : T60 => #[Value.string t.1]) (Kp b) (fun xs => xs.map (·.1) = splitT 47 s) (fun pre => pre.map (·.1) <+: splitT 47 s) 61 w := fun l J Jx W hW hJ hJx hY h0 => by
  have hbW : Boxed W b 9 (.string s) := Boxed.same hb hW
  have hJb : ∀ (pre : List T60) (V V' : World), J pre V → Below V.heap.size V V' → J pre V' := fun pre V V' hj hB => hJ pre V V' none hj (grown_below hB) (fun r e => by cases e)
  have k0 := hbW.cell
  refine callsIn_of_wp Tryz.func125 rfl trivial ?_ rfl
  simp only [Tryz.ntmps125, List.size_toArray, List.length_cons, List.length_nil, Nat.reduceAdd, Nat.reduceSub, Array.replicate_succ, Array.replicate_zero, List.push_toArray, List.append_toArray, List.nil_append, List.cons_append]
  gi_wp2
  gi_loopw [3, 4] (fun fr fm wr => ∃ (R : ByteArray) (m : Bool) (Q : List T60), fr = .string R ∧ fm = .bool m ∧ Q.length + R.size ≤ s.size + 1 ∧ (m = true → Q.length + R.size ≤ s.size) ∧ Hid (Q.map (fun t => sb t.1) ++ (if m = true then split 47 (sb R) else []) = split 47 (sb s)) ∧ J Q wr) (fun fr fm _ => match fr, fm with | .string R, .bool true => R.size + 1 | _, _ => 0)
  case atStart => exact ⟨s, true, [], rfl, rfl, by simp, by simp, by simp [Hid], h0⟩
  case round =>
    obtain ⟨R, m, Q, rfl, rfl, hl1, hl2, HI, hj⟩ := hrel
    cases m
    · have HN : Hid (Q.map (fun t => sb t.1) = split 47 (sb s)) := by
        show _ = _
        have := HI.out
        simpa using this
      clear HI
      gi_wp2
      go_end0
      exact ⟨⟨_, rfl⟩, .inl ⟨Q, all_of HN.out, hj⟩⟩
    · have hE := HI.out
      rw [if_pos rfl] at hE
      have hl := hl2 rfl
      have q : ∀ V, _ := fun V => cut_impl V R (by omega)
      clear HI hl1 hl2
      cases hd : (sb R).findIdx? (fun c => c == 47) with
      | none =>
        have e1 : cutS R = (R, ⟨#[]⟩) := by unfold cutS; rw [hd]
        have e2 : decide (0 ≤ slash R) = false := by unfold slash; rw [hd]; rfl
        simp only [e1, e2] at q
        have hxs : R.size ≤ 60 := by omega
        rw [cut_no hd] at hE
        have HN : Hid ((Q ++ [(⟨R, hxs⟩ : T60)]).map (fun t => sb t.1) = split 47 (sb s)) := by
          show _ = _
          rw [← hE, List.map_append]
          rfl
        clear hE hd e1 e2
        gi_wp2_with fail
        refine ⟨trivial, ?_⟩
        refine (callsIn_wide.2 (q _)).mono ?_
        rintro e w2 ⟨rfl, b2⟩
        have hj2 := hJb Q _ _ hj b2
        obtain ⟨fn, tmps, assign, body, hy, hR⟩ := hY Q ⟨R, hxs⟩ _ hj2 (by omega)
        dsimp only at hy
        clear q b2 hj hj2
        gi_wp2
        refine hR.mono ?_
        rintro e W3 (⟨rfl, hJ3, hk3⟩ | ⟨rfl, hJx3⟩)
        · gi_wp2
          go_roundw
          case rel => exact ⟨⟨#[]⟩, false, Q ++ [⟨R, hxs⟩], rfl, rfl, (by have z : (⟨#[]⟩ : ByteArray).size = 0 := rfl; rw [z, List.length_append]; simp; omega), fun h => (by cases h), (by show _ = _; rw [if_neg (by simp), List.append_nil]; exact HN.out), hJ3⟩
          case measure => simp
        · gi_wp2
          refine bodyPost_ret (results_none rfl _ _ _) rfl ?_
          exact ⟨⟨_, rfl⟩, .inr ⟨Q ++ [⟨R, hxs⟩], pre_of (R := []) (by rw [List.append_nil]; exact HN.out), hJx3⟩⟩
      | some i =>
        have hi := slash_some hd
        have e1 : cutS R = (R.extract 0 i, R.extract (i + 1) R.size) := by unfold cutS; rw [hd]
        have e2 : decide (0 ≤ slash R) = true := by unfold slash; rw [hd]; simp
        simp only [e1, e2] at q
        have z1 : (R.extract 0 i).size = i := by simp; omega
        have z2 : (R.extract (i + 1) R.size).size = R.size - (i + 1) := by simp
        rw [cut_yes hd] at hE
        obtain ⟨x, hx⟩ : ∃ x, R.extract 0 i = x := ⟨_, rfl⟩
        obtain ⟨y, hyy⟩ : ∃ x, R.extract (i + 1) R.size = x := ⟨_, rfl⟩
        rw [hx, hyy] at hE
        rw [hx] at z1
        rw [hyy] at z2
        simp only [hx, hyy] at q
        have hxs : x.size ≤ 60 := by omega
        have hys : y.size < R.size := by omega
        have hlq : Q.length + 1 + y.size ≤ s.size := by omega
        have HN : Hid ((Q ++ [(⟨x, hxs⟩ : T60)]).map (fun t => sb t.1) ++ split 47 (sb y) = split 47 (sb s)) := by
          show _ = _
          rw [← hE, List.map_append]
          simp
        clear hE hd e1 e2 hx hyy z1 z2
        gi_wp2_with fail
        refine ⟨trivial, ?_⟩
        refine (callsIn_wide.2 (q _)).mono ?_
        rintro e w2 ⟨rfl, b2⟩
        have hj2 := hJb Q _ _ hj b2
        obtain ⟨fn, tmps, assign, body, hy, hR⟩ := hY Q ⟨x, hxs⟩ _ hj2 (by omega)
        dsimp only at hy
        clear q b2 hj hj2
        gi_wp2
        refine hR.mono ?_
        rintro e W3 (⟨rfl, hJ3, hk3⟩ | ⟨rfl, hJx3⟩)
        · gi_wp2
          go_roundw
          case rel => exact ⟨y, true, Q ++ [⟨x, hxs⟩], rfl, rfl, by simp; omega, fun _ => by simp; omega, by show _ = _; rw [if_pos rfl]; exact HN.out, hJ3⟩
          case measure => simp; omega
        · gi_wp2
          refine bodyPost_ret (results_none rfl _ _ _) rfl ?_
          exact ⟨⟨_, rfl⟩, .inr ⟨Q ++ [⟨x, hxs⟩], pre_of HN.out, hJx3⟩⟩

set_option maxRecDepth 1000000 in
theorem parts_in (n : Nat) (s : ByteArray) (W : World) : CallsIn Fence.wide n Tryz.prog 104 #[.string s] W fun e w' => e = .returned (.func (.func 125) #[] #[.pointer (some ⟨W.heap.size, 0, none⟩)]) ∧ w' = W.alloc (.cells #[.string s] 9) := by
  refine callsIn_wide.2 ?_
  go_enter Tryz.func104, Tryz.ntmps104
  go_wp2
  go_ret
  exact ⟨rfl, rfl⟩

end Go.Proofs.YtbopliahafkecaaGreatDoor.Mod

/- Chapter 4, the landed code: is a text a path, and what is its last part. -/
namespace Go.Proofs.YtbopliahafkecaaGreatDoor.Mod
open Go.RowKit Go.Shelf Go.Proofs.YtbopliahafkecaaGreatDoor.Mem Go.Proofs.YtbopliahafkecaaGreatDoor.Laws Go.Proofs.YtbopliahafkecaaGreatDoor.Bytes Go.Proofs.YtbopliahafkecaaGreatDoor.Sha Go.Proofs.YtbopliahafkecaaGreatDoor.Ver
set_option linter.unusedVariables false
set_option linter.unusedSimpArgs false
attribute [local go_sem] Oper.semAt_some

set_option maxRecDepth 1000000 in
set_option maxHeartbeats 2000000 in
theorem pathOk_in (w : World) (s : ByteArray) (hs : s.size ≤ 60)
    (hI : ∀ W, CallsIn Fence.wide 5 Tryz.prog 104 #[.string s] W fun e w' => e = .returned (.func (.func 125) #[] #[.pointer (some ⟨W.heap.size, 0, none⟩)]) ∧ w' = W.alloc (.cells #[.string s] 9))
    (hS : ∀ (W : World) (b : Nat), Boxed W b 9 (.string s) → SeqStopsK Fence.wide 5 Tryz.prog 125 #[.pointer (some ⟨b, 0, none⟩)] (fun t : T60 => #[Value.string t.1]) (Kp b) (fun xs => xs.map (·.1) = splitT 47 s) (fun pre => pre.map (·.1) <+: splitT 47 s) 61 W)
    (hP : ∀ W (t : ByteArray), t.size ≤ 60 → Calls Tryz.prog 105 #[.string t] W fun e w' => e = .returned (.bool (part4 (sb t))) ∧ Below W.heap.size W w') :
    CallsIn Fence.wide 6 Tryz.prog 82 #[.string s] w fun e W' => e = .returned (.bool (path4 (sb s))) ∧ Below w.heap.size w W' := by
  have h1 : 1 ≤ 6 := by omega
  have d60 : decide ((60 : Int) < (s.size : Int)) = false := by simp; omega
  refine callsIn_of_wp_marks Tryz.func82 rfl trivial ?_ rfl
  simp only [Tryz.ntmps82, List.size_toArray, List.length_cons, List.length_nil, Nat.reduceAdd, Nat.reduceSub, Array.replicate_succ, Array.replicate_zero, List.push_toArray, List.append_toArray, List.nil_append, List.cons_append]
  gi_wp2_with (refine ⟨trivial, ?_⟩; gi_at_call 104; refine (hI _).mono ?_; rintro e w' ⟨rfl, rfl⟩)
  have c0 := Boxed.new w 4 (.bool false)
  have c1 := Boxed.new (w.alloc (.cells #[.bool false] 4)) 3 (.int .i64 0)
  have c2 := Boxed.new ((w.alloc (.cells #[.bool false] 4)).alloc (.cells #[.int .i64 0] 3)) 9 (.string s)
  simp only [World.size_alloc] at c1 c2
  have hB0 : Below w.heap.size w (((w.alloc (.cells #[.bool false] 4)).alloc (.cells #[.int .i64 0] 3)).alloc (.cells #[.string s] 9)) := (((Below.refl _ w).alloc (Nat.le_refl _) _).alloc (by simp) _).alloc (by simp; omega) _
  refine wpIn_rangeFunc_ownF rfl h1 (gf := 125) (lb := #[.pointer (some ⟨w.heap.size + 1 + 1, 0, none⟩)]) rfl trivial (enters_of Tryz.func125 (by kernel_rfl) rfl)
    (hS _ (w.heap.size + 1 + 1) c2) Kp_t (fun W l o o' h => Kp_b W l o o' h) (Below.refl _ _) (fun _ => rfl)
    (fun pre W => (((∀ t ∈ pre, part4 (sb t.1) = true) ∧ pre.length ≤ 6) ∧ Boxed W (w.heap.size + 1) 3 (.int .i64 (pre.length : Int)) ∧ Boxed W w.heap.size 4 (.bool false)) ∧ Below w.heap.size w W)
    (fun c pre W => (c = .ret ∧ bad4 pre ∧ Boxed W w.heap.size 4 (.bool false)) ∧ Below w.heap.size w W)
    (OwnFrom.and (Own.from (fun s A B row hs hg hr => ⟨hs.1, boxed_own _ _ (fun _ => _) () A B row hs.2.1 hg hr, boxed_own _ _ (fun _ => _) () A B row hs.2.2 hg hr⟩) _) (ownFrom_below (Nat.le_refl _) (by simp; omega)))
    (fun c => OwnFrom.and (Own.from (fun s A B row hs hg hr => ⟨hs.1, hs.2.1, boxed_own _ _ (fun _ => _) () A B row hs.2.2 hg hr⟩) _) (ownFrom_below (Nat.le_refl _) (by simp; omega)))
    ⟨⟨⟨by simp, by simp⟩, c1.alloc _, (c0.alloc _).alloc _⟩, hB0⟩
    (fun x => { tmps := #[.string s, undef, .pointer (some ⟨w.heap.size, 0, none⟩), .pointer (some ⟨w.heap.size + 1, 0, none⟩), .string x.1, .string s, .int .i64 s.size, .bool false, .string s, .func (.func 125) #[] #[.pointer (some ⟨w.heap.size + 1 + 1, 0, none⟩)], .string x.1, undef, undef, undef, undef, undef, undef, undef, undef, undef], defers := [] }) ?assign ?body ?done ?stop
  case assign =>
    intro l x W K hK
    gi_wp2
    exact hK
  case body =>
    rintro l pre x W ⟨⟨⟨hg, h6⟩, b1, b0⟩, hB⟩ _
    have k1 := b1.cell
    have f1 := b1.frozen
    by_cases hle : pre.length < 6
    · have d6 : ((pre.length : Int) == 6) = false := by simp; omega
      obtain ⟨ok, hok⟩ : ∃ b, part4 (sb x.1) = b := ⟨_, rfl⟩
      have q : ∀ W, _ := fun W => hP W x.1 x.2
      simp only [hok] at q
      have HOK : Hid (part4 (sb x.1) = ok) := hok
      clear hok
      gi_wp2_with fail
      refine ⟨trivial, ?_⟩
      refine (CallsIn.inRound l (callsIn_wide.2 (q _))).mono ?_
      rintro e w2 ⟨rfl, b2⟩
      have z1 := Boxed.same b1 b2
      have z0 := Boxed.same b0 b2
      have zB := hB.trans (b2.mono hB.size)
      have zO := others_below b2
      have zK := Kp_below (b := w.heap.size + 1 + 1) b2
      have y0 := z0.cell
      have y1 := z0.frozen
      have x0 := z1.cell
      have x1 := z1.frozen
      clear k1 f1 b1 b0 hB q b2
      cases ok
      · gi_wp2
        exact ⟨zO.trans (KeepsOthers.setCell _ _ _), ⟨rfl, .inr ⟨x, by simp, HOK.out⟩, Boxed.set _ z0⟩, zB.setCell (p := ⟨w.heap.size, 0, none⟩) (Nat.le_refl _) _⟩
      · have b1' := Boxed.set (.int .i64 ((pre.length : Int) + 1)) z1
        have b0' := Boxed.other z0 (B' := w.heap.size + 1) (by omega) (.int .i64 ((pre.length : Int) + 1))
        have hB' := zB.setCell (p := ⟨w.heap.size + 1, 0, none⟩) (by show _ ≤ w.heap.size + 1; omega) (.int .i64 ((pre.length : Int) + 1))
        have hO' := zO.trans (KeepsOthers.setCell w2 ⟨w.heap.size + 1, 0, none⟩ (.int .i64 ((pre.length : Int) + 1)))
        have hK' := Kp_t zK (Kp_set (b := w.heap.size + 1 + 1) (g := w.heap.size + 1) w2 (.int .i64 ((pre.length : Int) + 1)) (by omega))
        gi_wp2
        refine ⟨hO', hK', ⟨⟨?_, by simp; omega⟩, ?_, b0'⟩, hB'⟩
        · intro t ht
          rcases List.mem_append.1 ht with h | h
          · exact hg t h
          · simp at h; rw [h]; exact HOK.out
        · simpa using b1'
    · have d6 : ((pre.length : Int) == 6) = true := by simp; omega
      have y0 := b0.cell
      have y1 := b0.frozen
      gi_wp2
      refine ⟨trivial, ?_⟩
      gi_wp2
      exact ⟨KeepsOthers.setCell _ _ _, ⟨rfl, .inl (by simp; omega), Boxed.set _ b0⟩, hB.setCell (p := ⟨w.heap.size, 0, none⟩) (Nat.le_refl _) _⟩
  case done =>
    rintro D ys W hD hy ⟨⟨⟨hg, h6⟩, b1, b0⟩, hB⟩ hK
    have k0 := b0.cell
    have f0 := b0.frozen
    gi_wp2
    have hK' := (KeepsOthers.setCell W ⟨w.heap.size, 0, none⟩ (.bool true)).same D _ hK rfl
    refine ⟨by simp, .inl ⟨_, _, rfl, run_takeDeferred hK', ?_⟩⟩
    have hc5 := cell_kept (Boxed.set (.bool true) b0).cell (grownBy_putObj' _ D (.deferred none)) (fun r e => by cases e; exact ⟨_, hK', rfl⟩)
    refine ⟨.bool true, ?_, by rw [good4_path hs hy h6 hg], (hB.setCell (p := ⟨w.heap.size, 0, none⟩) (Nat.le_refl _) _).trans (belowK_b (w := w) (Nat.le_refl _) _ D _ _ (by simp at hD; omega) hK' rfl rfl)⟩
    simp [results, Tryz.f82, go_sem, hc5]
  case stop =>
    rintro D c pre W hD hpre ⟨⟨rfl, hbad, b0⟩, hB⟩ hK
    gi_wp2
    refine ⟨by simp, .inl ⟨_, _, rfl, run_takeDeferred hK, ?_⟩⟩
    have hc5 := cell_kept b0.cell (grownBy_putObj' _ D (.deferred none)) (fun r e => by cases e; exact ⟨_, hK, rfl⟩)
    refine ⟨.bool false, ?_, by rw [bad4_path hbad hpre], hB.trans (belowK_b (w := w) (Nat.le_refl _) W D _ _ (by simp at hD; omega) hK rfl rfl)⟩
    simp [results, Tryz.f82, go_sem, hc5]

end Go.Proofs.YtbopliahafkecaaGreatDoor.Mod

/- Chapter 4, the landed code: is a text a path; a path's last part. -/
namespace Go.Proofs.YtbopliahafkecaaGreatDoor.Mod
open Go.RowKit Go.Shelf Go.Proofs.YtbopliahafkecaaGreatDoor.Mem Go.Proofs.YtbopliahafkecaaGreatDoor.Laws Go.Proofs.YtbopliahafkecaaGreatDoor.Bytes Go.Proofs.YtbopliahafkecaaGreatDoor.Sha Go.Proofs.YtbopliahafkecaaGreatDoor.Ver
set_option linter.unusedVariables false
set_option linter.unusedSimpArgs false
attribute [local go_sem] Oper.semAt_some

set_option maxRecDepth 1000000 in
set_option maxHeartbeats 1000000 in
theorem path_impl (w : World) (s : ByteArray) (hs : s.size ≤ 1000000000000) :
    Calls Tryz.prog 82 #[.string s] w fun e w' => e = .returned (.bool (path4 (sb s))) ∧ Below w.heap.size w w' := by
  by_cases h : s.size ≤ 60
  · exact callsIn_wide.1 (pathOk_in w s h (fun W => parts_in 5 s W) (fun W b hb => parts_stops 5 (by omega) W b s h hb) (fun W t ht => part_impl4 W t (by omega)))
  · have d60 : decide ((60 : Int) < (s.size : Int)) = true := by simp; omega
    have HN : Hid (path4 (sb s) = false) := by
      show _ = _
      unfold path4
      rw [sb_len, decide_eq_false h, Bool.and_false]
    have hB := (Below.refl w.heap.size w).alloc (Nat.le_refl _) (.cells #[.bool false] 4)
    clear h
    go_enter Tryz.func82, Tryz.ntmps82
    go_wp2
    have hc5 := (Boxed.new w 4 (.bool false)).cell
    refine bodyPost_ret (v := .bool false) (by simp [results, Tryz.f82, go_sem, hc5]) rfl ?_
    exact ⟨by rw [HN.out], hB⟩

def lastOf (pre : List T60) : ByteArray := (pre.map (·.1)).getLast?.getD ⟨#[]⟩
theorem lastOf_snoc (pre : List T60) (x : T60) : lastOf (pre ++ [x]) = x.1 := by unfold lastOf; simp
theorem lastOf_all {s : ByteArray} {xs : List T60} (h : xs.map (·.1) = splitT 47 s) : lastOf xs = lastT s := by unfold lastOf lastT; rw [h]

set_option maxRecDepth 1000000 in
set_option maxHeartbeats 2000000 in
theorem last_in (w : World) (s : ByteArray) (hs : s.size ≤ 60)
    (hI : ∀ W, CallsIn Fence.wide 5 Tryz.prog 104 #[.string s] W fun e w' => e = .returned (.func (.func 125) #[] #[.pointer (some ⟨W.heap.size, 0, none⟩)]) ∧ w' = W.alloc (.cells #[.string s] 9))
    (hS : ∀ (W : World) (b : Nat), Boxed W b 9 (.string s) → SeqStopsK Fence.wide 5 Tryz.prog 125 #[.pointer (some ⟨b, 0, none⟩)] (fun t : T60 => #[Value.string t.1]) (Kp b) (fun xs => xs.map (·.1) = splitT 47 s) (fun pre => pre.map (·.1) <+: splitT 47 s) 61 W) :
    CallsIn Fence.wide 6 Tryz.prog 129 #[.string s] w fun e W' => e = .returned (.string (lastT s)) ∧ Below w.heap.size w W' := by
  have h1 : 1 ≤ 6 := by omega
  refine callsIn_of_wp_marks Tryz.func129 rfl trivial ?_ rfl
  simp only [Tryz.ntmps129, List.size_toArray, List.length_cons, List.length_nil, Nat.reduceAdd, Nat.reduceSub, Array.replicate_succ, Array.replicate_zero, List.push_toArray, List.append_toArray, List.nil_append, List.cons_append]
  gi_wp2_with (refine ⟨trivial, ?_⟩; gi_at_call 104; refine (hI _).mono ?_; rintro e w' ⟨rfl, rfl⟩)
  have c0 := Boxed.new w 9 (.string ⟨#[]⟩)
  have c2 := Boxed.new (w.alloc (.cells #[.string ⟨#[]⟩] 9)) 9 (.string s)
  simp only [World.size_alloc] at c2
  have hB0 : Below w.heap.size w ((w.alloc (.cells #[.string ⟨#[]⟩] 9)).alloc (.cells #[.string s] 9)) := ((Below.refl _ w).alloc (Nat.le_refl _) _).alloc (by simp) _
  refine wpIn_rangeFunc_ownF rfl h1 (gf := 125) (lb := #[.pointer (some ⟨w.heap.size + 1, 0, none⟩)]) rfl trivial (enters_of Tryz.func125 (by kernel_rfl) rfl)
    (hS _ (w.heap.size + 1) c2) Kp_t (fun W l o o' h => Kp_b W l o o' h) (Below.refl _ _) (fun _ => rfl)
    (fun pre W => Boxed W w.heap.size 9 (.string (lastOf pre)) ∧ Below w.heap.size w W)
    (fun c pre W => False ∧ Below w.heap.size w W)
    (OwnFrom.and (Own.from (boxed_own w.heap.size 9 (fun pre : List T60 => Value.string (lastOf pre))) _) (ownFrom_below (Nat.le_refl _) (by simp; omega)))
    (fun c => OwnFrom.and (Own.from (fun s A B row hs hg hr => hs) _) (ownFrom_below (Nat.le_refl _) (by simp; omega)))
    ⟨c0.alloc _, hB0⟩
    (fun x => { tmps := #[.string s, undef, .string ⟨#[]⟩, .pointer (some ⟨w.heap.size, 0, none⟩), .string x.1, .string s, .func (.func 125) #[] #[.pointer (some ⟨w.heap.size + 1, 0, none⟩)], .string x.1, undef, undef], defers := [] }) ?assign ?body ?done ?stop
  case assign =>
    intro l x W K hK
    gi_wp2
    exact hK
  case body =>
    rintro l pre x W ⟨b1, hB⟩ _
    have k1 := b1.cell
    have f1 := b1.frozen
    have b1' := Boxed.set (.string x.1) b1
    have hB' := hB.setCell (p := ⟨w.heap.size, 0, none⟩) (Nat.le_refl _) (.string x.1)
    have hO' := KeepsOthers.setCell W ⟨w.heap.size, 0, none⟩ (.string x.1)
    have hK' := Kp_set (b := w.heap.size + 1) (g := w.heap.size) W (.string x.1) (by omega)
    gi_wp2
    refine ⟨hO', hK', ?_, hB'⟩
    rw [lastOf_snoc]
    exact b1'
  case done =>
    rintro D ys W hD hy ⟨b0, hB⟩ hK
    have k0 := b0.cell
    have f0 := b0.frozen
    have HL : Hid (lastOf ys = lastT s) := lastOf_all hy
    gi_wp2
    refine ⟨by simp, .inl ⟨_, _, rfl, run_takeDeferred hK, ?_⟩⟩
    refine ⟨.string (lastOf ys), ?_, by rw [HL.out], hB.trans (belowK_b (w := w) (Nat.le_refl _) _ D _ _ (by simp at hD; omega) hK rfl rfl)⟩
    simp [results, Tryz.f129, go_sem]
  case stop =>
    rintro D c pre W hD hpre ⟨hf, hB⟩ hK
    exact hf.elim

theorem last_impl (w : World) (s : ByteArray) (hs : s.size ≤ 60) :
    Calls Tryz.prog 129 #[.string s] w fun e w' => e = .returned (.string (lastT s)) ∧ Below w.heap.size w w' :=
  callsIn_wide.1 (last_in w s hs (fun W => parts_in 5 s W) (fun W b hb => parts_stops 5 (by omega) W b s hs hb))

end Go.Proofs.YtbopliahafkecaaGreatDoor.Mod

/- Chapter 4, the landed code: what the library cuts off behind, and what it copies; plain facts of a path's last part. -/
namespace Go.Proofs.YtbopliahafkecaaGreatDoor.Mod
open Go.RowKit Go.Proofs.YtbopliahafkecaaGreatDoor.Mem Go.Proofs.YtbopliahafkecaaGreatDoor.Laws Go.Proofs.YtbopliahafkecaaGreatDoor.Bytes Go.Proofs.YtbopliahafkecaaGreatDoor.Sha Go.Proofs.YtbopliahafkecaaGreatDoor.Ver
set_option linter.unusedVariables false
set_option linter.unusedSimpArgs false

theorem isNum_digs4 {l : List Int} (h : isNum l = true) : l.all isd = true ∧ l ≠ [] ∧ (1 < l.length → l.head? ≠ some 48) := by
  unfold isNum at h
  rw [Bool.and_eq_true, Bool.or_eq_true] at h
  obtain ⟨h1, h2⟩ := h
  refine ⟨h1, ?_, ?_⟩
  · rintro rfl
    simp at h2
  · intro hl
    rcases h2 with h2 | h2
    · have : l = [48] := by simpa using h2
      rw [this] at hl
      simp at hl
    · simp at h2
      exact h2.2
/-- the number that a last part tells, by the landed code's reading -/
theorem in4_upTo (l : List Int) : in4 (number l) = if (upTo l 1000).2 = true ∧ 2 ≤ (upTo l 1000).1 then (upTo l 1000).1 else 0 := by
  by_cases hn : isNum l = true
  · obtain ⟨ha, h0, hh⟩ := isNum_digs4 hn
    have hp : 0 < l.length := List.length_pos_iff.2 h0
    by_cases h8 : l.length ≤ 8
    · have hnum : number l = numv l := by
        unfold number digs
        rw [if_neg]
        rw [ha, List.isEmpty_eq_false_iff.2 h0]
        rintro (h | h | h)
        · simp at h
        · omega
        · exact hh h.1 h.2
      by_cases hm : numv l ≤ 1000
      · have hu : upTo l 1000 = (numv l, true) := by unfold upTo; rw [if_pos ⟨hn, hm⟩]
        rw [hu, hnum]
        unfold in4
        by_cases h2 : 2 ≤ numv l
        · rw [if_pos ⟨h2, hm⟩, if_pos ⟨rfl, h2⟩]
        · rw [if_neg (fun h => h2 h.1), if_neg (fun h => h2 h.2)]
      · have hu : upTo l 1000 = (0, false) := by unfold upTo; rw [if_neg (fun h => hm h.2)]
        rw [hu, hnum]
        unfold in4
        rw [if_neg (fun h => hm h.2), if_neg (by simp)]
    · have hb := numv_big (l.length - 1) l (by omega) ha (hh (by omega))
      have h8' : (10 : Int) ^ 8 ≤ 10 ^ (l.length - 1) := pow_le (by omega)
      have hu : upTo l 1000 = (0, false) := by unfold upTo; rw [if_neg (fun h => by have := h.2; omega)]
      have hnum : number l = -1 := by unfold number; rw [if_pos (.inr (.inl (by omega)))]
      rw [hu, hnum]
      rfl
  · have hu : upTo l 1000 = (0, false) := by unfold upTo; rw [if_neg (fun h => hn h.1)]
    have hnum : number l < 0 := by
      by_cases h8 : l.length ≤ 8
      · have := isNum_number h8
        rw [Bool.eq_false_iff.2 hn] at this
        have := of_decide_eq_false this.symm
        omega
      · unfold number
        rw [if_pos (.inr (.inl (by omega)))]
        omega
    rw [hu]
    unfold in4
    rw [if_neg (by omega), if_neg (by simp)]

/-- a text's last part, and what stands before it -/
theorem last_form (s : ByteArray) : ((splitT 47 s).length < 2 ∧ (lastT s).size = s.size) ∨ (2 ≤ (splitT 47 s).length ∧ ∃ q, sb s = q ++ [47] ++ sb (lastT s)) := by
  have hT := splitT_sb 47 s
  by_cases hin : (47 : Int) ∈ sb s
  · right
    obtain ⟨q, r, hs, hr⟩ := last_of 47 _ hin
    have hsp : split 47 (sb s) = split 47 q ++ [r] := by
      unfold split
      rw [hs, splitL_app, splitL_none 47 r [] hr]
      simp
    have hlast : sb (lastT s) = r := by
      have h4 : (splitT 47 s).map sb = split 47 q ++ [r] := by rw [hT, hsp]
      have h5 : ((splitT 47 s).map sb).getLast? = some r := by rw [h4]; simp
      rw [List.getLast?_map] at h5
      unfold lastT
      cases hg : (splitT 47 s).getLast? with
      | none => rw [hg] at h5; simp at h5
      | some x => rw [hg] at h5; simpa using h5
    have hl : (splitT 47 s).length = (split 47 q).length + 1 := by rw [← List.length_map (f := sb), hT, hsp]; simp
    have hq : 0 < (split 47 q).length := by
      have := splitT_pos 47 (Plain.txt q)
      have hb : Byt q := by
        have := sb_byt s
        rw [hs] at this
        exact fun x hx => this x (by simp [hx])
      have h6 := splitT_sb 47 (Plain.txt q)
      rw [sb_txtv hb] at h6
      rw [← h6, List.length_map]
      exact this
    exact ⟨by omega, q, by rw [hlast]; exact hs⟩
  · left
    have : split 47 (sb s) = [sb s] := by
      unfold split
      rw [splitL_none 47 _ _ (fun x hx e => hin (e ▸ hx))]
      simp
    have h3 : splitT 47 s = [s] := by unfold splitT; rw [this]; simp [txt_sbv]
    refine ⟨by rw [h3]; simp, ?_⟩
    unfold lastT
    rw [h3]
    rfl

set_option maxRecDepth 1000000 in
set_option maxHeartbeats 1000000 in
theorem hassuf_no (w : World) (s t : ByteArray) (hs : s.size ≤ 1000000000000) (h : s.size < t.size) (ht : t.size ≤ 1000000000000) : Calls Tryz.prog 112 #[.string s, .string t] w fun e w' => e = .returned (.bool false) ∧ w' = w := by
  have h1 : ¬ t.size ≤ s.size := by omega
  go_enter Tryz.func112, Tryz.ntmps112
  go_wp2
  go_ret
  exact ⟨rfl, rfl⟩

set_option maxRecDepth 1000000 in
set_option maxHeartbeats 1000000 in
theorem hassuf_yes (w : World) (s t : ByteArray) (hs : s.size ≤ 1000000000000) (h : t.size ≤ s.size) (he : s.extract (s.size - t.size) s.size = t) : Calls Tryz.prog 112 #[.string s, .string t] w fun e w' => e = .returned (.bool true) ∧ w' = w := by
  have e1 : ((s.size : Int) - (t.size : Int)).toNat = s.size - t.size := by omega
  have e2 : ((s.extract (s.size - t.size) s.size).toList == t.toList) = true := by rw [he]; simp
  clear he
  go_enter Tryz.func112, Tryz.ntmps112
  go_wp2
  go_ret
  exact ⟨rfl, rfl⟩

set_option maxRecDepth 1000000 in
set_option maxHeartbeats 1000000 in
theorem cuts_no (w : World) (s t : ByteArray) (hs : s.size ≤ 1000000000000) (h : s.size < t.size) (ht : t.size ≤ 1000000000000) : Calls Tryz.prog 130 #[.string s, .string t] w fun e w' => e = .returned (.tuple #[.string s, .bool false]) ∧ w' = w := by
  have q := hassuf_no w s t hs h ht
  go_enter Tryz.func130, Tryz.ntmps130
  go_wp2_with (first | (go_at_call 112; refine q.mono ?_; rintro e w' ⟨rfl, rfl⟩) | go_in)
  go_ret2
  exact ⟨rfl, rfl⟩

set_option maxRecDepth 1000000 in
set_option maxHeartbeats 1000000 in
theorem cuts_yes (w : World) (s t : ByteArray) (hs : s.size ≤ 1000000000000) (h : t.size ≤ s.size) (he : s.extract (s.size - t.size) s.size = t) : Calls Tryz.prog 130 #[.string s, .string t] w fun e w' => e = .returned (.tuple #[.string (s.extract 0 (s.size - t.size)), .bool true]) ∧ w' = w := by
  have q := hassuf_yes w s t hs h he
  have e1 : ((s.size : Int) - (t.size : Int)).toNat = s.size - t.size := by omega
  clear he
  go_enter Tryz.func130, Tryz.ntmps130
  go_wp2_with (first | (go_at_call 112; refine q.mono ?_; rintro e w' ⟨rfl, rfl⟩) | go_in)
  go_ret2
  exact ⟨rfl, rfl⟩

end Go.Proofs.YtbopliahafkecaaGreatDoor.Mod

/- Chapter 4, the landed code: a copy of a text; a path cut before its last part. -/
namespace Go.Proofs.YtbopliahafkecaaGreatDoor.Mod
open Go.RowKit Go.Proofs.YtbopliahafkecaaGreatDoor.Mem Go.Proofs.YtbopliahafkecaaGreatDoor.Laws Go.Proofs.YtbopliahafkecaaGreatDoor.Bytes Go.Proofs.YtbopliahafkecaaGreatDoor.Sha Go.Proofs.YtbopliahafkecaaGreatDoor.Ver
set_option linter.unusedVariables false
set_option linter.unusedSimpArgs false

set_option maxHeartbeats 4000000 in
set_option maxRecDepth 100000 in
theorem clone_lite (w : World) (s : ByteArray) (hlim : s.size ≤ 1000000000000) :
    Calls Tryz.prog 116 #[.string s] w fun e w' => e = .returned (.string s) ∧ Below w.heap.size w w' := by
  by_cases h0 : s.size = 0
  · have hs : s = ⟨#[]⟩ := by
      apply ByteArray.ext
      exact Array.eq_empty_of_size_eq_zero h0
    subst hs
    go_enter Tryz.func116, Tryz.ntmps116
    go_wp2
    go_ret
    exact ⟨rfl, Below.refl _ _⟩
  · obtain ⟨i0, hi, hz0, hz1, hz2⟩ := info_parts info5
    have hinfo : (Tryz.prog.info? 5).map (·.size) = some 1 := by rw [hi]; simp [hz1]
    have hco : Tryz.prog.cellsOf 5 = 1 := by simp [Program.cellsOf, hi, hz1]
    obtain ⟨M, hM⟩ : ∃ M, M = madeCells (Value.int .u8 0).cells (((s.size : Nat) : Int).toNat * i0.size) := ⟨_, rfl⟩
    have hMs : M.size = s.size := by rw [hM, size_madeCells, hz1]; simp
    have hmk : ∀ W : World, (Instr.makeSlice 22 (.int .i64 (s.size : Int)) (.int .i64 (s.size : Int))).run Tryz.prog W = .ok (.slice (some ⟨W.heap.size, 0, none⟩) s.size s.size) (W.alloc (.cells M 5)) := fun W => by
      have h := run_make (P := Tryz.prog) W 22 5 i0 (.int .u8 0) Tryz.underlying22 hi hz0 .i64 .i64 (s.size : Int) (s.size : Int) (by omega) (by omega) (by rw [hz2]; omega) (by omega)
      rw [← hM] at h
      simpa using h
    clear hM
    have hcp := Lib.run_copy_row_string (P := Tryz.prog) (w.alloc (.cells M 5)) 22 9 3 5 w.heap.size 0 s.size s.size s M 5 Tryz.underlying22 hinfo (heap_alloc_new w _) (Nat.le_refl _) (by omega)
    obtain ⟨Y, hY⟩ : ∃ Y, Y = (M.toList.take 0 ++ Lib.byteCells s.data.toList ++ M.toList.drop (0 + s.size)).toArray := ⟨_, rfl⟩
    rw [← hY] at hcp
    have hYl : Y.toList = Lib.byteCells s.data.toList := by
      rw [hY, List.toList_toArray, List.take_zero, List.nil_append, List.drop_of_length_le (by rw [Array.length_toList]; omega), List.append_nil]
    have hYs : Y.size = s.size := by rw [← Array.length_toList, hYl, Lib.byteCells_length, ← Lib.size_eq]
    have hgY : ((w.alloc (.cells M 5)).setRow w.heap.size Y).heap[w.heap.size]? = some (.cells Y 5 (0, 0)) := setRow_heap _ _ M _ 5 (0, 0) (heap_alloc_new w _)
    have hne : s.data.toList ≠ [] := fun e => h0 (by rw [Lib.size_eq, e]; rfl)
    have hUS := Lib.run_unsafeString_row (P := Tryz.prog) ((w.alloc (.cells M 5)).setRow w.heap.size Y) 111 3 9 5 Tryz.underlying111 hco w.heap.size Y.size (by unfold World.shape?; rw [hgY]) s.data.toList hne (by rw [← Lib.size_eq]; omega) (by rw [← Lib.size_eq]; omega)
      (fun j x hx => Lib.cells_of_row hgY Y.size j _ (by rw [List.take_of_length_le (by rw [Array.length_toList]; exact Nat.le_refl _), hYl]; simp [Lib.byteCells, hx]))
    rw [← Lib.size_eq] at hUS
    clear hY
    go_enter Tryz.func116, Tryz.ntmps116
    go_wp2
    go_ret
    have hb1 : Below w.heap.size w (w.alloc (.cells M 5)) := (Below.refl _ w).alloc (Nat.le_refl _) _
    have hb2 : Below w.heap.size (w.alloc (.cells M 5)) ((w.alloc (.cells M 5)).setRow w.heap.size Y) := ⟨rfl, rfl, rfl, by simp, fun k hk => setRow_other _ _ _ _ (by omega)⟩
    exact ⟨rfl, Lib.below_freeze (hb1.trans hb2) (p := ⟨w.heap.size, 0, none⟩) (Nat.le_refl _) _⟩

set_option maxRecDepth 100000 in
theorem clone_impl (w : World) (s : ByteArray) (hlim : s.size ≤ 1000000000000) :
    Calls Tryz.prog 94 #[.string s] w fun e w' => e = .returned (.string s) ∧ Below w.heap.size w w' := by
  have q := clone_lite w s hlim
  go_enter Tryz.func94, Tryz.ntmps94
  go_wp2_with (go_at_call 116; refine q.mono ?_; rintro e w' ⟨rfl, b1⟩)
  go_ret
  exact ⟨rfl, b1⟩

/-- what the landed code cuts a path into -/
def cutB (s : ByteArray) : ByteArray := if maj4 s = 0 then s else s.extract 0 (s.size - (1 + (lastT s).size))
def cutN (s : ByteArray) : Int := if maj4 s = 0 then 1 else maj4 s

theorem cutB_base {s : ByteArray} (hp : path4 (sb s) = true) : base4 s = cutB s := by
  unfold base4 cutB
  rw [if_pos hp]
  by_cases h0 : maj4 s = 0
  · rw [if_pos h0, if_pos h0]
  · rw [if_neg h0, if_neg h0]
    obtain ⟨q, d, h1, h2, h3, h4, _⟩ := maj4_form h0
    have hlast : sb (lastT s) = [118] ++ d := by
      have hT := splitT_sb 47 s
      have h5 : ((splitT 47 s).map sb).getLast? = some ([118] ++ d) := by rw [hT, h2]; simp
      rw [List.getLast?_map] at h5
      unfold lastT
      cases hg : (splitT 47 s).getLast? with
      | none => rw [hg] at h5; simp at h5
      | some x => rw [hg] at h5; simpa using h5
    have hz : (lastT s).size = d.length + 1 := by rw [← sb_len, hlast]; simp
    rw [h4, hz]
    congr 1
    omega

/-- the number by the landed code's tests -/
theorem maj4_tests (s : ByteArray) : maj4 s = if 2 ≤ (splitT 47 s).length ∧ vAt (lastT s) = true ∧ (upTo (sb (vOff (lastT s))) 1000).2 = true ∧ 2 ≤ (upTo (sb (vOff (lastT s))) 1000).1 then (upTo (sb (vOff (lastT s))) 1000).1 else 0 := by
  unfold maj4
  by_cases h1 : 2 ≤ (splitT 47 s).length
  · by_cases h2 : vAt (lastT s) = true
    · have h2' : (sb (lastT s)).head? = some 118 := by unfold vAt at h2; exact of_decide_eq_true h2
      have h3 : vOff (lastT s) = (lastT s).extract 1 (lastT s).size := by unfold vOff; rw [if_pos h2]
      rw [if_neg (by rintro (h | h); omega; exact h h2'), in4_upTo, h3]
      by_cases h4 : (upTo (sb ((lastT s).extract 1 (lastT s).size)) 1000).2 = true ∧ 2 ≤ (upTo (sb ((lastT s).extract 1 (lastT s).size)) 1000).1
      · rw [if_pos h4, if_pos ⟨h1, h2, h4⟩]
      · rw [if_neg h4, if_neg (fun h => h4 h.2.2)]
    · have h2' : (sb (lastT s)).head? ≠ some 118 := by intro h; apply h2; unfold vAt; exact decide_eq_true h
      rw [if_pos (.inr h2'), if_neg (fun h => h2 h.2.1)]
  · rw [if_pos (.inl (by omega)), if_neg (fun h => h1 h.1)]

def slashed (t : ByteArray) : ByteArray := ⟨#[47]⟩ ++ t
theorem slashed_size (t : ByteArray) : (slashed t).size = 1 + t.size := by unfold slashed; simp; rfl
theorem slashed_sb (t : ByteArray) : sb (slashed t) = [47] ++ sb t := by unfold slashed sb; simp

theorem suffix_of {s : ByteArray} {q : List Int} (h : sb s = q ++ [47] ++ sb (lastT s)) : (slashed (lastT s)).size ≤ s.size ∧ s.extract (s.size - (slashed (lastT s)).size) s.size = slashed (lastT s) := by
  have hz := slashed_size (lastT s)
  have hl := congrArg List.length h
  rw [sb_len] at hl
  simp [sb_len] at hl
  refine ⟨by omega, ?_⟩
  have e : s.size - (slashed (lastT s)).size = q.length := by omega
  rw [e, ext_txt]
  have h2 : ((sb s).drop q.length).take (s.size - q.length) = sb (slashed (lastT s)) := by
    rw [slashed_sb, h, List.append_assoc, List.drop_left, List.take_of_length_le]
    simp [sb_len]
    omega
  rw [h2]
  exact txt_sbv _

end Go.Proofs.YtbopliahafkecaaGreatDoor.Mod

/- Chapter 4, the landed code: a path cut before its last part; a path's number, its base, what fits it. -/
namespace Go.Proofs.YtbopliahafkecaaGreatDoor.Mod
open Go.RowKit Go.Proofs.YtbopliahafkecaaGreatDoor.Mem Go.Proofs.YtbopliahafkecaaGreatDoor.Laws Go.Proofs.YtbopliahafkecaaGreatDoor.Bytes Go.Proofs.YtbopliahafkecaaGreatDoor.Sha Go.Proofs.YtbopliahafkecaaGreatDoor.Ver
set_option linter.unusedVariables false
set_option linter.unusedSimpArgs false

theorem suf_impl (s : ByteArray) (hs : s.size ≤ 60) : ∃ (f : ByteArray) (m : Bool), (∀ W, Calls Tryz.prog 130 #[.string s, .string (⟨#[47]⟩ ++ lastT s)] W fun e w' => e = .returned (.tuple #[.string f, .bool m]) ∧ w' = W) ∧
    ((m = false ∧ ¬ 2 ≤ (splitT 47 s).length) ∨ (m = true ∧ 2 ≤ (splitT 47 s).length ∧ f = s.extract 0 (s.size - (1 + (lastT s).size)))) := by
  have hz := slashed_size (lastT s)
  rcases last_form s with ⟨h1, h2⟩ | ⟨h1, q, h2⟩
  · exact ⟨s, false, fun W => cuts_no W s (slashed (lastT s)) (by omega) (by omega) (by omega), .inl ⟨rfl, by omega⟩⟩
  · obtain ⟨h3, h4⟩ := suffix_of h2
    refine ⟨_, true, fun W => cuts_yes W s (slashed (lastT s)) (by omega) h3 h4, .inr ⟨rfl, h1, by rw [hz]⟩⟩

theorem lastT_size (s : ByteArray) : (lastT s).size ≤ s.size := by
  rcases last_form s with ⟨h1, h2⟩ | ⟨h1, q, h2⟩
  · omega
  · have hl := congrArg List.length h2
    rw [sb_len] at hl
    simp [sb_len] at hl
    omega
theorem vOff_size (t : ByteArray) : (vOff t).size ≤ t.size := by
  unfold vOff
  split
  · simp
  · exact Nat.le_refl _

set_option maxRecDepth 1000000 in
set_option maxHeartbeats 2000000 in
theorem cutm_impl (w : World) (s : ByteArray) (hs : s.size ≤ 60) :
    Calls Tryz.prog 108 #[.string s] w fun e w' => e = .returned (.tuple #[.string (cutB s), .int .i64 (cutN s)]) ∧ Below w.heap.size w w' := by
  obtain ⟨f, m, q2, hfm⟩ := suf_impl s hs
  have q1 := last_impl w s hs
  have ht := lastT_size s
  have hu := vOff_size (lastT s)
  have q3 : ∀ W, _ := fun W => cutp_impl W (lastT s) (by omega)
  have q4 : ∀ W, _ := fun W => upto4_impl W (vOff (lastT s)) (by omega)
  have HM : Hid (maj4 s = if 2 ≤ (splitT 47 s).length ∧ vAt (lastT s) = true ∧ (upTo (sb (vOff (lastT s))) 1000).2 = true ∧ 2 ≤ (upTo (sb (vOff (lastT s))) 1000).1 then (upTo (sb (vOff (lastT s))) 1000).1 else 0) := maj4_tests s
  have HB : Hid (cutB s = if maj4 s = 0 then s else s.extract 0 (s.size - (1 + (lastT s).size))) := rfl
  have HC : Hid (cutN s = if maj4 s = 0 then 1 else maj4 s) := rfl
  obtain ⟨t, hT⟩ : ∃ t, lastT s = t := ⟨_, rfl⟩
  rw [hT] at q1 ht hu HM HB hfm
  simp only [hT] at q2 q3 q4
  obtain ⟨u, hU⟩ : ∃ u, vOff t = u := ⟨_, rfl⟩
  obtain ⟨k, hK⟩ : ∃ k, vAt t = k := ⟨_, rfl⟩
  rw [hU] at hu
  rw [hU, hK] at HM
  simp only [hU, hK] at q3 q4
  obtain ⟨n, hN⟩ : ∃ n, (upTo (sb u) 1000).1 = n := ⟨_, rfl⟩
  obtain ⟨o, hO⟩ : ∃ n, (upTo (sb u) 1000).2 = n := ⟨_, rfl⟩
  rw [hN, hO] at HM
  simp only [hN, hO] at q4
  clear hT hU hK hN hO
  have HF : Hid ((m = false ∧ ¬ 2 ≤ (splitT 47 s).length) ∨ (m = true ∧ 2 ≤ (splitT 47 s).length ∧ f = s.extract 0 (s.size - (1 + t.size)))) := hfm
  clear hfm
  go_enter Tryz.func108, Tryz.ntmps108
  go_wp2_with fail
  refine q1.mono ?_
  rintro e w1 ⟨rfl, b1⟩
  go_wp2_with fail
  refine (q2 _).mono ?_
  rintro e w2 ⟨rfl, rfl⟩
  go_wp2_with fail
  refine (q3 _).mono ?_
  rintro e w3 ⟨rfl, rfl⟩
  go_wp2_with fail
  refine (q4 _).mono ?_
  rintro e w4 ⟨rfl, b4⟩
  have hB : Below w.heap.size w w4 := b1.trans (b4.mono b1.size)
  clear q1 q2 q3 q4 b1 b4
  have no : ¬ (m = true ∧ k = true ∧ o = true ∧ 2 ≤ n) → Hid (cutB s = s ∧ cutN s = 1) := by
    intro h
    have h0 : maj4 s = 0 := by
      rw [HM.out, if_neg]
      rintro ⟨h1, h2, h3, h4⟩
      apply h
      refine ⟨?_, h2, h3, h4⟩
      rcases HF.out with ⟨_, h5⟩ | ⟨h5, _⟩
      · exact absurd h1 h5
      · exact h5
    exact ⟨by rw [HB.out, if_pos h0], by rw [HC.out, if_pos h0]⟩
  cases m
  · have HN := no (by simp)
    clear no
    go_wp2
    go_ret2
    exact ⟨by rw [HN.out.1, HN.out.2]; rfl, hB⟩
  cases k
  · have HN := no (by simp)
    clear no
    go_wp2
    go_ret2
    exact ⟨by rw [HN.out.1, HN.out.2]; rfl, hB⟩
  cases o
  · have HN := no (by simp)
    clear no
    go_wp2
    go_ret2
    exact ⟨by rw [HN.out.1, HN.out.2]; rfl, hB⟩
  by_cases h2 : n < 2
  · have HN := no (by rintro ⟨_, _, _, h⟩; omega)
    clear no
    go_wp2
    go_ret2
    exact ⟨by rw [HN.out.1, HN.out.2]; rfl, hB⟩
  · have HN : Hid (cutB s = f ∧ cutN s = n) := by
      rcases HF.out with ⟨h5, _⟩ | ⟨_, h6, h7⟩
      · cases h5
      · have h0 : maj4 s = n := by rw [HM.out, if_pos ⟨h6, rfl, rfl, by omega⟩]
        have h1 : n ≠ 0 := by omega
        exact ⟨by rw [HB.out, h0, if_neg h1, h7], by rw [HC.out, h0, if_neg h1]⟩
    clear no
    go_wp2
    go_ret2
    exact ⟨by rw [HN.out.1, HN.out.2]; rfl, hB⟩

theorem path60 {s : ByteArray} (h : path4 (sb s) = true) : s.size ≤ 60 := by
  unfold path4 at h
  rw [Bool.and_eq_true, sb_len] at h
  exact of_decide_eq_true h.2

set_option maxRecDepth 1000000 in
set_option maxHeartbeats 1000000 in
theorem major_impl (w : World) (s : ByteArray) (hs : s.size ≤ 1000000000000) :
    Calls Tryz.prog 84 #[.string s] w fun e w' => e = .returned (.int .i64 (major4 s)) ∧ Below w.heap.size w w' := by
  have q1 := path_impl w s hs
  have HM : Hid (major4 s = if path4 (sb s) = true then cutN s else 0) := rfl
  have H6 : Hid (path4 (sb s) = true → s.size ≤ 60) := path60
  obtain ⟨ok, hok⟩ : ∃ b, path4 (sb s) = b := ⟨_, rfl⟩
  rw [hok] at q1 HM H6
  clear hok
  go_enter Tryz.func84, Tryz.ntmps84
  go_wp2_with fail
  refine q1.mono ?_
  rintro e w1 ⟨rfl, b1⟩
  cases ok
  · have HN : Hid (major4 s = 0) := HM.out
    clear HM
    go_wp2
    go_ret
    exact ⟨by rw [HN.out]; rfl, b1⟩
  · have HN : Hid (major4 s = cutN s) := HM.out
    have q2 := cutm_impl w1 s (H6.out rfl)
    obtain ⟨n, hn⟩ : ∃ n, cutN s = n := ⟨_, rfl⟩
    obtain ⟨c, hc⟩ : ∃ n, cutB s = n := ⟨_, rfl⟩
    rw [hn] at HN
    simp only [hn, hc] at q2
    clear hn hc HM H6
    go_wp2_with fail
    refine q2.mono ?_
    rintro e w2 ⟨rfl, b2⟩
    have hB : Below w.heap.size w w2 := b1.trans (b2.mono b1.size)
    go_wp2
    go_ret
    exact ⟨by rw [HN.out]; rfl, hB⟩

end Go.Proofs.YtbopliahafkecaaGreatDoor.Mod

/- Chapter 4, the landed code: what fits a path. -/
namespace Go.Proofs.YtbopliahafkecaaGreatDoor.Mod
open Go.RowKit Go.Proofs.YtbopliahafkecaaGreatDoor.Mem Go.Proofs.YtbopliahafkecaaGreatDoor.Laws Go.Proofs.YtbopliahafkecaaGreatDoor.Bytes Go.Proofs.YtbopliahafkecaaGreatDoor.Sha Go.Proofs.YtbopliahafkecaaGreatDoor.Ver
set_option linter.unusedVariables false
set_option linter.unusedSimpArgs false

theorem major4_pos (s : ByteArray) : path4 (sb s) = decide (0 < major4 s) := by
  unfold major4
  have := maj4_bd s
  cases path4 (sb s)
  · rfl
  · rw [if_pos rfl]
    symm
    apply decide_eq_true
    split <;> omega

set_option maxRecDepth 1000000 in
set_option maxHeartbeats 2000000 in
theorem fits_impl (w : World) (s : ByteArray) (a b c : Int) (p : ByteArray) (hs : s.size ≤ 1000000000000) (hp : p.size ≤ 1000000000000) :
    Calls Tryz.prog 54 #[.string s, ver a b c p] w fun e w' => e = .returned (.bool (fits4 s a b c p)) ∧ Below w.heap.size w w' := by
  have q1 := path_impl (w.alloc (.cells #[.int .i64 a, .int .i64 b, .int .i64 c, .string p] 45)) s hs
  have q2 : ∀ W, _ := fun W => ok_impl W a b c p hp
  have q3 : ∀ W, _ := fun W => major_impl W s hs
  have HM : Hid (fits4 s a b c p = (path4 (sb s) && okV a b c p && (decide (a = major4 s) || (decide (major4 s = 1) && decide (a = 0))))) := by show _ = _; unfold fits4; rw [major4_pos]
  obtain ⟨pk, hpk⟩ : ∃ m, path4 (sb s) = m := ⟨_, rfl⟩
  obtain ⟨m, hm⟩ : ∃ m, major4 s = m := ⟨_, rfl⟩
  obtain ⟨ok, hok⟩ : ∃ m, okV a b c p = m := ⟨_, rfl⟩
  rw [hpk] at q1
  simp only [hok] at q2
  simp only [hm] at q3
  rw [hm, hok, hpk] at HM
  clear hm hok hpk
  have HR0 : Hid (Vr (w.alloc (.cells #[.int .i64 a, .int .i64 b, .int .i64 c, .string p] 45)) w.heap.size a b c p) := heap_alloc_new w _
  have HB : Hid (Below w.heap.size w (w.alloc (.cells #[.int .i64 a, .int .i64 b, .int .i64 c, .string p] 45))) := (Below.refl _ _).alloc (Nat.le_refl _) _
  unfold ver at q2 ⊢
  go_enter Tryz.func54, Tryz.ntmps54
  go_wp2_with fail
  refine q1.mono ?_
  rintro e w1 ⟨rfl, b1⟩
  have r1 := Vr.same HR0.out b1
  have hb1 : Below w.heap.size w w1 := HB.out.trans (b1.mono (by simp))
  obtain ⟨k0, k1, k2, k3⟩ := Vr.cells r1
  clear HR0 HB q1 b1
  cases pk
  · have HN : Hid (fits4 s a b c p = false) := HM.out
    clear HM
    go_wp2
    go_ret
    exact ⟨by rw [HN.out]; rfl, hb1⟩
  go_wp2_with fail
  refine (q2 _).mono ?_
  rintro e w2 ⟨rfl, b2⟩
  have r2 := Vr.same r1 b2
  have hb2 : Below w.heap.size w w2 := hb1.trans (b2.mono hb1.size)
  clear k0 k1 k2 k3 r1 b2 q2
  cases ok
  · have HN : Hid (fits4 s a b c p = false) := HM.out
    clear HM
    go_wp2
    go_ret
    exact ⟨by rw [HN.out]; rfl, hb2⟩
  go_wp2_with fail
  refine (q3 _).mono ?_
  rintro e w3 ⟨rfl, b3⟩
  have r3 := Vr.same r2 b3
  have hb3 : Below w.heap.size w w3 := hb2.trans (b3.mono hb2.size)
  clear r2 b3 q3
  obtain ⟨k0, k1, k2, k3⟩ := Vr.cells r3
  replace HM : Hid (fits4 s a b c p = (decide (a = m) || (decide (m = 1) && decide (a = 0)))) := HM.out
  by_cases h1 : a = m
  · have d1 : (a == m) = true := by simpa using h1
    have HN : Hid (fits4 s a b c p = true) := by show _ = _; rw [HM.out]; simp [h1]
    clear HM h1
    go_wp2
    go_ret
    exact ⟨by rw [HN.out]; rfl, hb3⟩
  have d1 : (a == m) = false := by simpa using h1
  by_cases h2 : m = 1
  · by_cases h3 : a = 0
    · have d2 : (m == 1) = true := by simpa using h2
      have d3 : (a == 0) = true := by simpa using h3
      have HN : Hid (fits4 s a b c p = true) := by show _ = _; rw [HM.out]; simp [h2, h3]
      clear HM h1 h2 h3
      go_wp2
      go_ret
      exact ⟨by rw [HN.out]; rfl, hb3⟩
    · have d2 : (m == 1) = true := by simpa using h2
      have d3 : (a == 0) = false := by simpa using h3
      have HN : Hid (fits4 s a b c p = false) := by show _ = _; rw [HM.out]; simp [h1, h3]
      clear HM h1 h2 h3
      go_wp2
      go_ret
      exact ⟨by rw [HN.out]; rfl, hb3⟩
  · have d2 : (m == 1) = false := by simpa using h2
    have HN : Hid (fits4 s a b c p = false) := by show _ = _; rw [HM.out]; simp [h1, h2]
    clear HM h1 h2
    go_wp2
    go_ret
    exact ⟨by rw [HN.out]; rfl, hb3⟩

end Go.Proofs.YtbopliahafkecaaGreatDoor.Mod
