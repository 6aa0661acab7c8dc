/- The laws of squeezing, and what the project answers there. -/
import Derived.Test.YtkiocjbooegajarLawSqz
import Derived.Test.YtkiocjbooegajarPckF
