/- Several texts as one: GraphPlain, GraphPlain2. -/
section
/- Graphs gone over in order, as plain functions: what is reached, how deep, and that the order is the same under other places. -/
namespace Go.Proofs.YtjlpdmpfemhkpaaGreatDoor.Grp
set_option linter.unusedSimpArgs false
set_option linter.unusedVariables false

end Go.Proofs.YtjlpdmpfemhkpaaGreatDoor.Grp
end

section
/- The walk from several places, one behind the other. -/
namespace Go.Proofs.YtjlpdmpfemhkpaaGreatDoor.Grp
set_option linter.unusedSimpArgs false
set_option linter.unusedVariables false
end Go.Proofs.YtjlpdmpfemhkpaaGreatDoor.Grp
end
