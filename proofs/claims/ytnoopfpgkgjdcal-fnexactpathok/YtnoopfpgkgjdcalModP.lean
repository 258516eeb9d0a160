/- Chapter 4, the landed code: the iterator over the parts of a path. -/
import Derived.Test.YtnoopfpgkgjdcalModC
import Derived.Test.YtnoopfpgkgjdcalMod5
import Derived.Test.YtnoopfpgkgjdcalModK
namespace Go.Proofs.Ytnoopfpgkgjdcal.Mod
open Go.RowKit Go.Shelf Go.Proofs.Ytnoopfpgkgjdcal.Mem Go.Proofs.Ytnoopfpgkgjdcal.Laws Go.Proofs.Ytnoopfpgkgjdcal.Bytes Go.Proofs.Ytnoopfpgkgjdcal.Sha Go.Proofs.Ytnoopfpgkgjdcal.Ver
set_option linter.unusedVariables false
set_option linter.unusedSimpArgs false
attribute [local go_sem] Oper.semAt_some

theorem grown_below {A B : World} (h : Below A.heap.size A B) : A.grownBy B none := ⟨h.os, h.tape, h.output, h.size, fun j hj _ => h.block j hj⟩

theorem back_map (Q : List T60) : (Q.map (fun t => sb t.1)).map Plain.txt = Q.map (·.1) := by
  rw [List.map_map]
  apply List.map_congr_left
  intro t _
  exact txt_sbv t.1
theorem pre_of {s : ByteArray} {Q : List T60} {R : List (List Int)} (h : Q.map (fun t => sb t.1) ++ R = split 47 (sb s)) : Q.map (·.1) <+: splitT 47 s := by
  unfold splitT
  rw [← h, List.map_append, back_map]
  exact List.prefix_append _ _
theorem all_of {s : ByteArray} {Q : List T60} (h : Q.map (fun t => sb t.1) = split 47 (sb s)) : Q.map (·.1) = splitT 47 s := by
  unfold splitT
  rw [← h, back_map]
theorem sb_ext (s : ByteArray) (f k : Nat) : sb (s.extract f k) = ((sb s).drop f).take (k - f) := by
  rw [ext_txt]
  exact sb_txtv (fun x hx => sb_byt s x (List.mem_of_mem_drop (List.mem_of_mem_take hx)))
theorem cut_no {R : ByteArray} (h : (sb R).findIdx? (fun c => c == 47) = none) : split 47 (sb R) = [sb R] := by
  unfold split
  rw [splitL_none 47 _ _ (fun x hx e => by have := List.findIdx?_eq_none_iff.1 h x hx; simp [e] at this)]
  simp
theorem cut_yes {R : ByteArray} {i : Nat} (h : (sb R).findIdx? (fun c => c == 47) = some i) : split 47 (sb R) = sb (R.extract 0 i) :: split 47 (sb (R.extract (i + 1) R.size)) := by
  obtain ⟨hi, h1, h2⟩ := List.findIdx?_eq_some_iff_getElem.1 h
  have h1' : (sb R)[i] = 47 := by simpa using h1
  have e : sb R = (sb R).take i ++ [47] ++ (sb R).drop (i + 1) := by
    rw [← h1', List.append_assoc]
    simp
  have e1 : sb (R.extract 0 i) = (sb R).take i := by rw [sb_ext]; simp
  have e2 : sb (R.extract (i + 1) R.size) = (sb R).drop (i + 1) := by
    rw [sb_ext, List.take_of_length_le (by rw [List.length_drop, sb_len]; omega)]
  rw [e1, e2]
  unfold split
  conv => lhs; rw [e]
  rw [splitL_app, splitL_none 47 ((sb R).take i) [] ?_]
  · simp
  · intro x hx
    obtain ⟨j, hj, rfl⟩ := List.getElem_of_mem hx
    rw [List.getElem_take]
    have hj' : j < i := by rw [List.length_take] at hj; omega
    have := h2 j hj'
    simpa using this

set_option maxRecDepth 1000000 in
set_option maxHeartbeats 4000000 in
theorem parts_stops (n : Nat) (hn : 1 ≤ n) (w : World) (b : Nat) (s : ByteArray) (hs : s.size ≤ 60) (hb : Boxed w b 9 (.string s)) :
    SeqStopsK Fence.wide n Try.prog 28 #[.pointer (some ⟨b, 0, none⟩)] (fun t : T60 => #[Value.string t.1]) (Kp b) (fun xs => xs.map (·.1) = splitT 47 s) (fun pre => pre.map (·.1) <+: splitT 47 s) 61 w := fun l J Jx W hW hJ hJx hY h0 => by
  have hbW : Boxed W b 9 (.string s) := Boxed.same hb hW
  have hJb : ∀ (pre : List T60) (V V' : World), J pre V → Below V.heap.size V V' → J pre V' := fun pre V V' hj hB => hJ pre V V' none hj (grown_below hB) (fun r e => by cases e)
  have k0 := hbW.cell
  refine callsIn_of_wp Try.func28 rfl trivial ?_ rfl
  simp only [Try.ntmps28, List.size_toArray, List.length_cons, List.length_nil, Nat.reduceAdd, Nat.reduceSub, Array.replicate_succ, Array.replicate_zero, List.push_toArray, List.append_toArray, List.nil_append, List.cons_append]
  gi_wp2
  gi_loopw [3, 4] (fun fr fm wr => ∃ (R : ByteArray) (m : Bool) (Q : List T60), fr = .string R ∧ fm = .bool m ∧ Q.length + R.size ≤ s.size + 1 ∧ (m = true → Q.length + R.size ≤ s.size) ∧ Hid (Q.map (fun t => sb t.1) ++ (if m = true then split 47 (sb R) else []) = split 47 (sb s)) ∧ J Q wr) (fun fr fm _ => match fr, fm with | .string R, .bool true => R.size + 1 | _, _ => 0)
  case atStart => exact ⟨s, true, [], rfl, rfl, by simp, by simp, by simp [Hid], h0⟩
  case round =>
    obtain ⟨R, m, Q, rfl, rfl, hl1, hl2, HI, hj⟩ := hrel
    cases m
    · have HN : Hid (Q.map (fun t => sb t.1) = split 47 (sb s)) := by
        show _ = _
        have := HI.out
        simpa using this
      clear HI
      gi_wp2
      go_end0
      exact ⟨⟨_, rfl⟩, .inl ⟨Q, all_of HN.out, hj⟩⟩
    · have hE := HI.out
      rw [if_pos rfl] at hE
      have hl := hl2 rfl
      have q : ∀ V, _ := fun V => cut_impl V R (by omega)
      clear HI hl1 hl2
      cases hd : (sb R).findIdx? (fun c => c == 47) with
      | none =>
        have e1 : cutS R = (R, ⟨#[]⟩) := by unfold cutS; rw [hd]
        have e2 : decide (0 ≤ slash R) = false := by unfold slash; rw [hd]; rfl
        simp only [e1, e2] at q
        have hxs : R.size ≤ 60 := by omega
        rw [cut_no hd] at hE
        have HN : Hid ((Q ++ [(⟨R, hxs⟩ : T60)]).map (fun t => sb t.1) = split 47 (sb s)) := by
          show _ = _
          rw [← hE, List.map_append]
          rfl
        clear hE hd e1 e2
        gi_wp2_with fail
        refine ⟨trivial, ?_⟩
        refine (callsIn_wide.2 (q _)).mono ?_
        rintro e w2 ⟨rfl, b2⟩
        have hj2 := hJb Q _ _ hj b2
        obtain ⟨fn, tmps, assign, body, hy, hR⟩ := hY Q ⟨R, hxs⟩ _ hj2 (by omega)
        dsimp only at hy
        clear q b2 hj hj2
        gi_wp2
        refine hR.mono ?_
        rintro e W3 (⟨rfl, hJ3, hk3⟩ | ⟨rfl, hJx3⟩)
        · gi_wp2
          go_roundw
          case rel => exact ⟨⟨#[]⟩, false, Q ++ [⟨R, hxs⟩], rfl, rfl, (by have z : (⟨#[]⟩ : ByteArray).size = 0 := rfl; rw [z, List.length_append]; simp; omega), fun h => (by cases h), (by show _ = _; rw [if_neg (by simp), List.append_nil]; exact HN.out), hJ3⟩
          case measure => simp
        · gi_wp2
          refine bodyPost_ret (results_none rfl _ _ _) rfl ?_
          exact ⟨⟨_, rfl⟩, .inr ⟨Q ++ [⟨R, hxs⟩], pre_of (R := []) (by rw [List.append_nil]; exact HN.out), hJx3⟩⟩
      | some i =>
        have hi := slash_some hd
        have e1 : cutS R = (R.extract 0 i, R.extract (i + 1) R.size) := by unfold cutS; rw [hd]
        have e2 : decide (0 ≤ slash R) = true := by unfold slash; rw [hd]; simp
        simp only [e1, e2] at q
        have z1 : (R.extract 0 i).size = i := by simp; omega
        have z2 : (R.extract (i + 1) R.size).size = R.size - (i + 1) := by simp
        rw [cut_yes hd] at hE
        obtain ⟨x, hx⟩ : ∃ x, R.extract 0 i = x := ⟨_, rfl⟩
        obtain ⟨y, hyy⟩ : ∃ x, R.extract (i + 1) R.size = x := ⟨_, rfl⟩
        rw [hx, hyy] at hE
        rw [hx] at z1
        rw [hyy] at z2
        simp only [hx, hyy] at q
        have hxs : x.size ≤ 60 := by omega
        have hys : y.size < R.size := by omega
        have hlq : Q.length + 1 + y.size ≤ s.size := by omega
        have HN : Hid ((Q ++ [(⟨x, hxs⟩ : T60)]).map (fun t => sb t.1) ++ split 47 (sb y) = split 47 (sb s)) := by
          show _ = _
          rw [← hE, List.map_append]
          simp
        clear hE hd e1 e2 hx hyy z1 z2
        gi_wp2_with fail
        refine ⟨trivial, ?_⟩
        refine (callsIn_wide.2 (q _)).mono ?_
        rintro e w2 ⟨rfl, b2⟩
        have hj2 := hJb Q _ _ hj b2
        obtain ⟨fn, tmps, assign, body, hy, hR⟩ := hY Q ⟨x, hxs⟩ _ hj2 (by omega)
        dsimp only at hy
        clear q b2 hj hj2
        gi_wp2
        refine hR.mono ?_
        rintro e W3 (⟨rfl, hJ3, hk3⟩ | ⟨rfl, hJx3⟩)
        · gi_wp2
          go_roundw
          case rel => exact ⟨y, true, Q ++ [⟨x, hxs⟩], rfl, rfl, by simp; omega, fun _ => by simp; omega, by show _ = _; rw [if_pos rfl]; exact HN.out, hJ3⟩
          case measure => simp; omega
        · gi_wp2
          refine bodyPost_ret (results_none rfl _ _ _) rfl ?_
          exact ⟨⟨_, rfl⟩, .inr ⟨Q ++ [⟨x, hxs⟩], pre_of HN.out, hJx3⟩⟩

set_option maxRecDepth 1000000 in
theorem parts_in (n : Nat) (s : ByteArray) (W : World) : CallsIn Fence.wide n Try.prog 19 #[.string s] W fun e w' => e = .returned (.func (.func 28) #[] #[.pointer (some ⟨W.heap.size, 0, none⟩)]) ∧ w' = W.alloc (.cells #[.string s] 9) := by
  refine callsIn_wide.2 ?_
  go_enter Try.func19, Try.ntmps19
  go_wp2
  go_ret
  exact ⟨rfl, rfl⟩

end Go.Proofs.Ytnoopfpgkgjdcal.Mod
